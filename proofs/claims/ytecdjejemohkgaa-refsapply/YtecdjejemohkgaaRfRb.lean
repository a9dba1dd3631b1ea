/- Refs: Get, in the program and in the document. -/
import Derived.Test.YtecdjejemohkgaaRfRa
import Derived.Test.YtecdjejemohkgaaShelf
namespace Go.Proofs.Ytecdjejemohkgaa.Rf
open Cb Go.RowKit
theorem clone_any (s : ByteArray) (w : World) (hs : s.size ≤ 281474976710656) : Calls Try.prog 38 #[.string s] w fun e w' => e = .returned (.string s) ∧ Below w.heap.size w w' := by
  have H := hideIt (fun w => Try.stringslite_Clone s w hs)
  go_enter Try.func38, Try.ntmps38
  go_wp2_with (first | (go_at_call 53; refine (H.out _).mono ?_; rintro e w1 ⟨rfl, hb⟩))
  go_ret
  exact ⟨rfl, hb⟩
/-- The place of a name, as a number: -1, if it is not there. -/
def idxI (nm : ByteArray) (l : List Rf) : Int := match idxR nm l with
  | some i => (i : Int)
  | none => -1
theorem idxR_none {nm : ByteArray} : ∀ {l : List Rf}, (∀ j y, j < l.length → l[j]? = some y → ¬ y.nm = nm) → idxR nm l = none
  | [], _ => rfl
  | x :: r, h => by
    rw [idxR, if_neg (h 0 x (by simp) rfl), idxR_none (fun j y hj hy => h (j + 1) y (by simp; omega) (by simpa using hy))]
    rfl
theorem idxR_at {nm : ByteArray} : ∀ {l : List Rf} {i : Nat} {x : Rf}, (∀ j y, j < i → l[j]? = some y → ¬ y.nm = nm) → l[i]? = some x → x.nm = nm → idxR nm l = some i
  | [], i, x, _, h, _ => by simp at h
  | y :: r, 0, x, _, h, e => by
    simp at h
    subst h
    rw [idxR, if_pos e]
  | y :: r, i + 1, x, h, hx, e => by
    rw [idxR, if_neg (h 0 y (by omega) rfl), idxR_at (i := i) (x := x) (fun j z hj hz => h (j + 1) z (by omega) (by simpa using hz)) (by simpa using hx) e]
    rfl
theorem RRow.cells {w : World} {v : Value} {l : List Rf} (h : RRow w v l) (hp : 0 < l.length) : ∃ b o c, v = .slice (some ⟨b, o, none⟩) l.length c ∧ l.length ≤ c ∧ b < w.heap.size ∧ ∀ i x, l[i]? = some x → ∀ w', Below w.heap.size w w' → w'.cell? ⟨b, o + i * 2, none⟩ = some (.string x.nm) ∧ w'.cell? ⟨b, o + i * 2 + 1, none⟩ = some (.string x.id) := by
  obtain ⟨h0, a, c, e, h1, h2, h3⟩ := h
  obtain ⟨b, o, rfl, hc⟩ := h3 hp
  refine ⟨b, o, c, e, h1, hc.1, fun i x hi w' hb => ?_⟩
  obtain ⟨d0, d1⟩ := rfsV_at l i x hi
  have := (hc.below hb).2
  exact ⟨this _ _ d0, by rw [Nat.add_assoc]; exact this _ _ d1⟩
theorem RRow.below {w w' : World} {v : Value} {l : List Rf} (h : RRow w v l) (hb : Below w.heap.size w w') : RRow w' v l := VRow.below h hb
set_option maxHeartbeats 800000 in
set_option maxRecDepth 100000 in
theorem getq_any (x : Rf) (nm : ByteArray) (B : Nat) (w : World) (hB : B < w.heap.size) (hc : w.cell? ⟨B, 0, none⟩ = some (.string nm)) :
    Calls Try.prog 42 #[.agg #[.string x.nm, .string x.id], .pointer (some ⟨B, 0, none⟩)] w fun e w' => e = .returned (.bool (decide (x.nm = nm))) ∧ Below w.heap.size w w' := by
  obtain ⟨a, b⟩ := x
  have hne : B ≠ w.heap.size := by omega
  have hd := tl_eq (a := a) (b := nm)
  have HD : Hid (decide ((Rf.mk a b).nm = nm) = decide (a = nm)) := hideIt rfl
  rw [HD.out]
  generalize decide (a = nm) = d at hd ⊢
  go_enter Try.func42, Try.ntmps42
  go_wp2
  go_ret
  exact ⟨rfl, (Below.refl _ _).alloc (Nat.le_refl _) _⟩
set_option maxHeartbeats 1600000 in
set_option maxRecDepth 100000 in
theorem indexR_any (v : Value) (l : List Rf) (nm : ByteArray) (B : Nat) (w : World) (h : RRow w v l) (hl : l.length ≤ 100000) (hB : B < w.heap.size) (hc : w.cell? ⟨B, 0, none⟩ = some (.string nm)) :
    Calls Try.prog 41 #[v, .func (.func 42) #[] #[.pointer (some ⟨B, 0, none⟩)]] w fun e w' => e = .returned (.int .i64 (idxI nm l)) ∧ Below w.heap.size w w' := by
  obtain ⟨n, hn⟩ : ∃ n, l.length = n := ⟨_, rfl⟩
  have HN := hideIt hn
  have nI : (n : Int) ≤ 100000 := by omega
  have HR : Hid (∀ i x, l[i]? = some x → ∀ w', Below w.heap.size w w' → ∃ b o c, v = .slice (some ⟨b, o, none⟩) n c ∧ w'.cell? ⟨b, o + i * 2, none⟩ = some (.string x.nm) ∧ w'.cell? ⟨b, o + i * 2 + 1, none⟩ = some (.string x.id)) := hideIt (fun i x hi w' hb => by
    have hil := (List.getElem?_eq_some_iff.1 hi).1
    obtain ⟨b, o, c, e, _, _, h3⟩ := h.cells (by omega)
    rw [hn] at e
    exact ⟨b, o, c, e, h3 i x hi w' hb⟩)
  have HQ : Hid (∀ (x : Rf) w', Below w.heap.size w w' → Calls Try.prog 42 #[.agg #[.string x.nm, .string x.id], .pointer (some ⟨B, 0, none⟩)] w' fun e w2 => e = .returned (.bool (decide (x.nm = nm))) ∧ Below w'.heap.size w' w2) := hideIt (fun x w' hb => getq_any x nm B w' (Nat.lt_of_lt_of_le hB hb.size) (by rw [hb.cell (p := ⟨B, 0, none⟩) hB]; exact hc))
  obtain ⟨p, hp⟩ : ∃ p, idxI nm l = p := ⟨_, rfl⟩
  have HP := hideIt hp
  rw [hp]
  obtain ⟨h0, a, c, hv, h1, h2, h3⟩ := h
  subst hv
  rw [hn] at HR h1 ⊢
  clear h0 h3 hp hn hc hl
  go_enter Try.func41, Try.ntmps41
  go_wp2
  go_loopw [8] (fun s8 wr => ∃ i : Nat, i ≤ n ∧ s8 = .int .i64 (i : Int) ∧ Below w.heap.size w wr ∧ (∀ j y, j < i → l[j]? = some y → ¬ y.nm = nm)) (fun s8 _ => n - (intOf s8).toNat)
  case atStart => exact ⟨0, by omega, rfl, Below.refl _ _, fun j y hj => by omega⟩
  case round =>
    obtain ⟨i, hi, rfl, hb, hpre⟩ := hrel
    have HB := hideIt hb
    have HPR := hideIt hpre
    clear hb hpre
    by_cases hlt : i < n
    · have i1 : (i : Int) < (n : Int) := by omega
      have i2 : decide ((i : Int) < (n : Int)) = true := decide_eq_true i1
      obtain ⟨x, hxi⟩ : ∃ x, l[i]? = some x := ⟨l[i]'(by rw [HN.out]; exact hlt), by simp⟩
      obtain ⟨b, o, c', e, c0, c1⟩ := HR.out i x hxi wr HB.out
      cases e
      have HXI := hideIt hxi
      have HA2 := hideIt (HQ.out x wr HB.out)
      obtain ⟨f, hf⟩ : ∃ f, decide (x.nm = nm) = f := ⟨_, rfl⟩
      rw [hf] at HA2
      have HF := hideIt hf
      clear hf hxi
      cases f
      · go_wp2_with (first | (go_at_call 42; refine HA2.out.mono ?_; rintro e w1 ⟨rfl, hb1⟩))
        go_roundw
        case rel =>
          refine ⟨i + 1, by omega, by go_num, below2 HB.out hb1, fun j y hj hy => ?_⟩
          rcases (by omega : j < i ∨ j = i) with h | h
          · exact HPR.out j y h hy
          · subst h
            rw [HXI.out] at hy
            cases hy
            exact of_decide_eq_false HF.out
        case measure => simp [intOf]; omega
      · go_wp2_with (first | (go_at_call 42; refine HA2.out.mono ?_; rintro e w1 ⟨rfl, hb1⟩))
        go_ret
        refine ⟨?_, below2 HB.out hb1⟩
        rw [← HP.out, idxI, idxR_at HPR.out HXI.out (of_decide_eq_true HF.out)]; rfl
    · have i2 : decide ((i : Int) < (n : Int)) = false := decide_eq_false (by omega)
      obtain rfl : i = n := by omega
      have HZ : Hid (p = -1) := hideIt (by rw [← HP.out, idxI, idxR_none (fun j y hj hy => HPR.out j y (by rw [HN.out] at hj; exact hj) hy)])
      go_wp2
      go_ret
      exact ⟨by rw [HZ.out]; rfl, HB.out⟩
end Go.Proofs.Ytecdjejemohkgaa.Rf
