/- Refs: Get, in the program and in the document. -/
import Derived.Test.YtecdjejemohkgaaRfRb
namespace Go.Proofs.Ytecdjejemohkgaa.Rf
open Cb Go.RowKit
/-- Refs as a value. -/
def refV (hd : ByteArray) (v : Value) : Value := .agg #[.string hd, v]
set_option maxHeartbeats 1600000 in
set_option maxRecDepth 100000 in
theorem get_any (hd : ByteArray) (v : Value) (l : List Rf) (nm : ByteArray) (w : World) (h : RRow w v l) (hl : l.length ≤ 100000) (hs : ∀ (i : Nat) (x : Rf), l[i]? = some x → x.id.size ≤ 281474976710656) :
    Calls Try.prog 19 #[.agg #[.string hd, v], .string nm] w fun e w' => e = .returned (.string (getR l nm)) ∧ Below w.heap.size w w' := by
  obtain ⟨W, hW⟩ : ∃ W, (w.alloc (.cells #[.string hd, v] 24)).alloc (.cells #[.string nm] 9) = W := ⟨_, rfl⟩
  have hsz : W.heap.size = w.heap.size + 2 := by rw [← hW]; simp
  have hb : Below w.heap.size w W := by rw [← hW]; exact ((Below.refl _ w).alloc (Nat.le_refl _) _).alloc (by simp) _
  have hc : W.cell? ⟨w.heap.size + 1, 0, none⟩ = some (.string nm) := cellAt (by rw [← hW]; exact alloc_at (by simp)) rfl
  have hg : W.heap[w.heap.size]? = some (.cells #[.string hd, v] 24) := by
    rw [← hW]
    have := ((Below.refl (w.heap.size + 1) (w.alloc (.cells #[.string hd, v] 24))).alloc (by simp) (.cells #[.string nm] 9)).block w.heap.size (by omega)
    rw [this]
    exact alloc_at rfl
  have hcv : W.cell? ⟨w.heap.size, 1, none⟩ = some v := cellAt hg rfl
  have HI := hideIt (indexR_any v l nm (w.heap.size + 1) W (h.below hb) hl (by omega) hc)
  have HF : Hid (∀ w', Below W.heap.size W w' → w'.cell? ⟨w.heap.size, 1, none⟩ = some v) := hideIt (fun w' hb' => by rw [hb'.cell (p := ⟨w.heap.size, 1, none⟩) (by show w.heap.size < _; omega)]; exact hcv)
  have HB := hideIt hb
  have HW := hideIt hW
  rcases idx_get nm l with ⟨a1, a2⟩ | ⟨i, x, a1, a2, a3, a4⟩
  · have e : idxI nm l = -1 := by rw [idxI, a1]
    rw [e] at HI
    rw [a2]
    clear h hs a1 a2 e hc hg hb hsz hW hcv
    go_enter Try.func19, Try.ntmps19
    go_wp2_with (first | (go_at_call 41; rw [HW.out]; refine HI.out.mono ?_; rintro e w1 ⟨rfl, hb1⟩; have hcv := HF.out _ hb1))
    go_ret
    exact ⟨rfl, below_step HB.out (Nat.le_refl _) hb1⟩
  · have e : idxI nm l = (i : Int) := by rw [idxI, a1]
    rw [e] at HI
    rw [← a3]
    have hil := (List.getElem?_eq_some_iff.1 a2).1
    obtain ⟨b, o, c, rfl, h1, h2, h3⟩ := h.cells (by omega)
    have HC : Hid (∀ w', Below W.heap.size W w' → w'.cell? ⟨b, o + i * 2 + 1, none⟩ = some (.string x.id)) := hideIt (fun w' hb' => (h3 i x a2 w' (below_step HB.out (Nat.le_refl _) hb')).2)
    obtain ⟨n, hn⟩ : ∃ n, l.length = n := ⟨_, rfl⟩
    rw [hn] at hil hl HF HI HW ⊢
    have i0 : (0 : Int) ≤ (i : Int) := by omega
    have i1 : (i : Int) < (n : Int) := by omega
    have i2 : decide ((i : Int) < (0 : Int)) = false := decide_eq_false (by omega)
    have i3 : ¬ (i : Int) < (0 : Int) := by omega
    have HK := hideIt (fun w => clone_any x.id w (hs i x a2))
    clear h h1 h2 h3 hs a1 a2 a3 a4 e hc hg hb hsz hW hcv hn
    go_enter Try.func19, Try.ntmps19
    go_wp2_with (first
      | (go_at_call 41; rw [HW.out]; refine HI.out.mono ?_; rintro e w1 ⟨rfl, hb1⟩; have hcv := HF.out _ hb1; have hcx := HC.out _ hb1)
      | (go_at_call 38; refine (HK.out _).mono ?_; rintro e w2 ⟨rfl, hb2⟩))
    go_ret
    exact ⟨rfl, below2 (below_step HB.out (Nat.le_refl _) hb1) hb2⟩
set_option maxHeartbeats 1600000 in
set_option maxRecDepth 100000 in
theorem refget_any (hd : ByteArray) (v : Value) (l : List Rf) (nm : ByteArray) (w : World) (h : RRow w v l) (hl : l.length ≤ 100000) :
    Calls Try.prog 20 #[.agg #[.string hd, v], .string nm] w fun e w' => e = .returned (.string (getR l nm)) ∧ Below w.heap.size w w' := by
  obtain ⟨W, hW⟩ : ∃ W, w.alloc (.cells #[.string hd, v] 30) = W := ⟨_, rfl⟩
  have hb : Below w.heap.size w W := by rw [← hW]; exact (Below.refl _ w).alloc (Nat.le_refl _) _
  have hcv : W.cell? ⟨w.heap.size, 1, none⟩ = some v := cellAt (by rw [← hW]; exact alloc_at rfl) rfl
  obtain ⟨n, hn⟩ : ∃ n, l.length = n := ⟨_, rfl⟩
  have HN := hideIt hn
  have nI : (n : Int) ≤ 100000 := by omega
  have HR : Hid (∀ i x, l[i]? = some x → ∃ b o c, v = .slice (some ⟨b, o, none⟩) n c ∧ W.cell? ⟨b, o + i * 2, none⟩ = some (.string x.nm) ∧ W.cell? ⟨b, o + i * 2 + 1, none⟩ = some (.string x.id)) := hideIt (fun i x hi => by
    have hil := (List.getElem?_eq_some_iff.1 hi).1
    obtain ⟨b, o, c, e, _, _, h3⟩ := h.cells (by omega)
    rw [hn] at e
    exact ⟨b, o, c, e, h3 i x hi W hb⟩)
  obtain ⟨p, hp⟩ : ∃ p, getR l nm = p := ⟨_, rfl⟩
  have HP := hideIt hp
  rw [hp]
  obtain ⟨h0, a, c, hv, h1, h2, h3⟩ := h
  subst hv
  rw [hn] at HR h1 hcv hW ⊢
  have HB := hideIt hb
  clear h0 h3 hp hn hl hb
  go_enter Try.func20, Try.ntmps20
  have HW := hideIt hW
  clear hW
  go_wp2
  go_loopw [5] (fun s5 wr => wr = W ∧ ∃ i : Nat, i ≤ n ∧ s5 = .int .i64 (i : Int) ∧ (∀ j y, j < i → l[j]? = some y → ¬ y.nm = nm)) (fun s5 _ => n - (intOf s5).toNat)
  case atStart => exact ⟨HW.out, 0, by omega, rfl, fun j y hj => by omega⟩
  case round =>
    obtain ⟨rfl, i, hi, rfl, hpre⟩ := hrel
    have HPR := hideIt hpre
    clear hpre
    by_cases hlt : i < n
    · have i1 : (i : Int) < (n : Int) := by omega
      have i2 : decide ((i : Int) < (n : Int)) = true := decide_eq_true i1
      obtain ⟨x, hxi⟩ : ∃ x, l[i]? = some x := ⟨l[i]'(by rw [HN.out]; exact hlt), by simp⟩
      obtain ⟨b, o, c', e, c0, c1⟩ := HR.out i x hxi
      cases e
      have HXI := hideIt hxi
      have hd2 := tl_eq (a := x.nm) (b := nm)
      obtain ⟨f, hf⟩ : ∃ f, decide (x.nm = nm) = f := ⟨_, rfl⟩
      rw [hf] at hd2
      have HF := hideIt hf
      clear hf hxi
      cases f
      · go_wp2
        go_roundw
        case rel =>
          refine ⟨by trivial, i + 1, by omega, by go_num, fun j y hj hy => ?_⟩
          rcases (by omega : j < i ∨ j = i) with h | h
          · exact HPR.out j y h hy
          · subst h
            rw [HXI.out] at hy
            cases hy
            exact of_decide_eq_false HF.out
        case measure => simp [intOf]; omega
      · go_wp2
        go_ret
        refine ⟨?_, HB.out⟩
        rcases idx_get nm l with ⟨a1, _⟩ | ⟨k, y, a1, a2, a3, a4⟩
        · rw [idxR_at HPR.out HXI.out (of_decide_eq_true HF.out)] at a1
          cases a1
        · rw [idxR_at HPR.out HXI.out (of_decide_eq_true HF.out)] at a1
          cases a1
          rw [HXI.out] at a2
          cases a2
          rw [a3, HP.out]
          rfl
    · have i2 : decide ((i : Int) < (n : Int)) = false := decide_eq_false (by omega)
      obtain rfl : i = n := by omega
      have HZ : Hid (p = ⟨#[]⟩) := hideIt (by
        have a := idxR_none (nm := nm) (l := l) (fun j y hj hy => HPR.out j y (by rw [HN.out] at hj; exact hj) hy)
        rcases idx_get nm l with ⟨_, a2⟩ | ⟨k, y, a1, _⟩
        · rw [← HP.out]; exact a2
        · rw [a] at a1; cases a1)
      go_wp2
      go_ret
      exact ⟨by rw [HZ.out]; rfl, HB.out⟩
end Go.Proofs.Ytecdjejemohkgaa.Rf
