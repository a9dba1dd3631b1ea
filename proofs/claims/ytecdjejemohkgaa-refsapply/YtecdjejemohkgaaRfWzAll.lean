/- Refs: the document's ways; its set: walked. Refs: the document's set: walked. Refs: the document's set: the walk. Refs: the document's why: walked. Refs: the document's Apply: plain, and its memory. Refs: the document's Apply: walked. Refs: the law RefsApply: its two rows of updates, and its row of ways. Refs: the law RefsApply: walked. -/
import Derived.Test.YtecdjejemohkgaaRfAx
import Derived.Test.YtecdjejemohkgaaRfRg
import Derived.Test.YtecdjejemohkgaaRfRl
import Derived.Test.YtecdjejemohkgaaRfRm
import Derived.Test.YtecdjejemohkgaaRfRy
import Derived.Deep.RegionHeld3
import Derived.Test.YtecdjejemohkgaaRfRt
import Derived.Test.YtecdjejemohkgaaRfRv
import Derived.Test.YtecdjejemohkgaaRfLa
namespace Go.Proofs.Ytecdjejemohkgaa.Rf
open Cb Go.RowKit Go.Shelf
/-- May a branch go from one to another one? -/
def fwdB (l : List Rf) (a b : ByteArray) : Bool := l.any (fun x => decide (x.nm = a) && decide (x.id = b))
theorem fwd_drop (l : List Rf) (a b : ByteArray) (i : Nat) (x : Rf) (h : l[i]? = some x) : fwdB (l.drop i) a b = ((decide (x.nm = a) && decide (x.id = b)) || fwdB (l.drop (i + 1)) a b) := by
  obtain ⟨hi, e⟩ := List.getElem?_eq_some_iff.1 h
  rw [List.drop_eq_getElem_cons hi, e]
  rfl
set_option maxHeartbeats 3200000 in
set_option maxRecDepth 100000 in
theorem forward_any (v : Value) (l : List Rf) (a b : ByteArray) (w : World) (h : RRow w v l) (hl : l.length ≤ 100000) :
    Calls Try.prog 10 #[v, .string a, .string b] w fun e w' => e = .returned (.bool (fwdB l a b)) ∧ Below w.heap.size w w' := by
  obtain ⟨n, hn⟩ : ∃ n, l.length = n := ⟨_, rfl⟩
  have HN := hideIt hn
  have nI : (n : Int) ≤ 100000 := by omega
  have HR : Hid (∀ i x, l[i]? = some x → ∃ b o c, v = .slice (some ⟨b, o, none⟩) n c ∧ ∀ w', Below w.heap.size w w' → w'.cell? ⟨b, o + i * 2, none⟩ = some (.string x.nm) ∧ w'.cell? ⟨b, o + i * 2 + 1, none⟩ = some (.string x.id)) := hideIt (fun i x hi => by
    have hil := (List.getElem?_eq_some_iff.1 hi).1
    obtain ⟨b, o, c, e, _, _, h3⟩ := h.cells (by omega)
    rw [hn] at e
    exact ⟨b, o, c, e, fun w' hb' => h3 i x hi w' hb'⟩)
  obtain ⟨F, hF⟩ : ∃ F, fwdB l a b = F := ⟨_, rfl⟩
  rw [hF]
  have HF := hideIt hF
  obtain ⟨h0, sa, c, hv, h1, h2, h3⟩ := h
  subst hv
  rw [hn] at HR h1 ⊢
  clear h0 h3 hn hF
  go_enter Try.func10, Try.ntmps10
  go_wp2
  go_loopw [7] (fun t wr => ∃ i : Nat, i ≤ n ∧ t = .int .i64 (i : Int) ∧ Below w.heap.size w wr ∧ F = fwdB (l.drop i) a b) (fun t _ => n - (intOf t).toNat)
  case atStart => exact ⟨0, by omega, rfl, Below.refl _ _, by rw [List.drop_zero]; exact HF.out.symm⟩
  case round =>
    obtain ⟨i, hi, rfl, hbr, hFi⟩ := hrel
    have HBR := hideIt hbr
    have HFI := hideIt hFi
    clear hFi
    by_cases hlt : i < n
    · have i0 : (0 : Int) ≤ (i : Int) := by omega
      have i1 : (i : Int) < (n : Int) := by omega
      have i2 : decide ((i : Int) < (n : Int)) = true := decide_eq_true i1
      obtain ⟨x, hxi⟩ : ∃ x, l[i]? = some x := ⟨l[i]'(by rw [HN.out]; exact hlt), by simp⟩
      obtain ⟨g, o, c', e, hcc⟩ := HR.out i x hxi
      cases e
      obtain ⟨c0, c1⟩ := hcc wr hbr
      have hs := fwd_drop l a b i x hxi
      obtain ⟨xn, xd⟩ := x
      simp only at c0 c1 hs
      have t1 := tl_eq (a := xn) (b := a)
      have t2 := tl_eq (a := xd) (b := b)
      have HS := hideIt hs
      clear hcc hbr hxi hs
      by_cases e1 : xn = a
      · rw [decide_eq_true e1] at t1 HS
        have e1' : xn.toList = a.toList := by rw [e1]
        by_cases e2 : xd = b
        · rw [decide_eq_true e2] at t2 HS
          have e2' : xd.toList = b.toList := by rw [e2]
          have HT : Hid (F = true) := hideIt (by rw [HFI.out, HS.out]; rfl)
          clear e1 e2
          go_wp2
          (try simp only [Exit.inBlock, Exit.then])
          go_ret
          exact ⟨by rw [HT.out]; rfl, HBR.out⟩
        · rw [decide_eq_false e2] at t2 HS
          have e2' : ¬ xd.toList = b.toList := (tl_ne e2).2
          have HT : Hid (F = fwdB (l.drop (i + 1)) a b) := hideIt (by rw [HFI.out, HS.out]; simp)
          clear e1 e2
          go_wp2
          go_roundw
          case rel => exact ⟨i + 1, by omega, by go_num, HBR.out, HT.out⟩
          case measure => simp [intOf]; omega
      · rw [decide_eq_false e1] at t1 HS
        have e1' : ¬ xn.toList = a.toList := (tl_ne e1).2
        have HT : Hid (F = fwdB (l.drop (i + 1)) a b) := hideIt (by rw [HFI.out, HS.out]; simp)
        clear e1 t2
        go_wp2
        go_roundw
        case rel => exact ⟨i + 1, by omega, by go_num, HBR.out, HT.out⟩
        case measure => simp [intOf]; omega
    · have i2 : decide ((i : Int) < (n : Int)) = false := decide_eq_false (by omega)
      have HT : Hid (F = false) := hideIt (by rw [HFI.out, List.drop_of_length_le (by rw [HN.out]; omega)]; rfl)
      clear hbr
      go_wp2
      go_ret
      exact ⟨by rw [HT.out]; rfl, HBR.out⟩
theorem closure_any (v : Value) (l : List Rf) (a b : ByteArray) (g : Nat) (w : World) (h : RRow w v l) (hl : l.length ≤ 100000) (hc : w.cell? ⟨g, 0, none⟩ = some v) :
    Calls Try.prog 9 #[.string a, .string b, .pointer (some ⟨g, 0, none⟩)] w fun e w' => e = .returned (.bool (fwdB l a b)) ∧ Below w.heap.size w w' := by
  have HF := hideIt (forward_any v l a b w h hl)
  obtain ⟨_, sa, c, hv, _⟩ := h
  subst hv
  generalize fwdB l a b = F at HF ⊢
  go_enter Try.func9, Try.ntmps9
  go_wp2_with (first | (go_at_call 10; refine HF.out.mono ?_; rintro e w1 ⟨rfl, hb1⟩))
  go_ret
  exact ⟨rfl, hb1⟩
end Go.Proofs.Ytecdjejemohkgaa.Rf
namespace Go.Proofs.Ytecdjejemohkgaa.Rf
open Cb Go.RowKit Go.Shelf
/-- The document's way to lay a name: 'inn': it is laid, or is not to be. -/
def rsetG (nm id : ByteArray) : Bool → List Rf → List Rf
  | inn, [] => if inn = true then [] else [⟨nm, id⟩]
  | inn, x :: r => (if (!inn && !decide (lt x.nm nm)) = true then [⟨nm, id⟩] else []) ++ (if x.nm = nm then [] else [x]) ++ rsetG nm id (inn || !decide (lt x.nm nm)) r
theorem rset_at (nm id : ByteArray) (inn : Bool) (l : List Rf) (i : Nat) (x : Rf) (h : l[i]? = some x) : rsetG nm id inn (l.drop i) = (if (!inn && !decide (lt x.nm nm)) = true then [⟨nm, id⟩] else []) ++ (if x.nm = nm then [] else [x]) ++ rsetG nm id (inn || !decide (lt x.nm nm)) (l.drop (i + 1)) := by
  obtain ⟨hi, e⟩ := List.getElem?_eq_some_iff.1 h
  rw [List.drop_eq_getElem_cons hi, e]
  rfl
theorem rset_in (nm id : ByteArray) : ∀ l : List Rf, (∀ y ∈ l, ¬ y.nm = nm) → rsetG nm id true l = l
  | [], _ => rfl
  | x :: r, h => by
    have ih := rset_in nm id r (fun y hy => h y (List.mem_cons_of_mem _ hy))
    rw [rsetG, if_neg (by simp), if_neg (h x (by simp))]
    simp [ih]
theorem rset_set (nm id : ByteArray) : ∀ l : List Rf, Ri2 l → rsetG nm id false l = setR nm id l
  | [], _ => rfl
  | x :: r, h => by
    have ih := rset_set nm id r h.2
    rw [rsetG, setR]
    by_cases e : x.nm = nm
    · have hl : decide (lt x.nm nm) = false := decide_eq_false (by rw [e]; exact lt_irrefl _)
      have hr := rset_in nm id r (fun y hy e' => by have := h.1 y hy; rw [e, e'] at this; exact lt_irrefl _ this)
      rw [hl, if_pos (by rfl), if_pos e, if_pos e]
      simp [hr]
    · rw [if_neg e, if_neg e]
      by_cases e2 : lt nm x.nm
      · have hl : decide (lt x.nm nm) = false := decide_eq_false (fun k => lt_irrefl _ (lt_trans e2 k))
        have hr := rset_in nm id r (fun y hy e' => by have := lt_trans e2 (h.1 y hy); rw [e'] at this; exact lt_irrefl _ this)
        rw [hl, if_pos (by rfl), if_pos e2]
        simp [hr]
      · have hl : decide (lt x.nm nm) = true := by
          rcases lt_tri x.nm nm with k | k | k
          · exact decide_eq_true k
          · exact absurd k e
          · exact absurd k e2
        rw [hl, if_neg (by decide), if_neg e2]
        simp [ih]
theorem rset_del (nm : ByteArray) : ∀ l : List Rf, Ri2 l → rsetG nm ⟨#[]⟩ true l = delR nm l
  | [], _ => rfl
  | x :: r, h => by
    have ih := rset_del nm r h.2
    rw [rsetG, delR, if_neg (by simp)]
    by_cases e : x.nm = nm
    · have hr := rset_in nm ⟨#[]⟩ r (fun y hy e' => by have := h.1 y hy; rw [e, e'] at this; exact lt_irrefl _ this)
      rw [if_pos e, if_pos e]
      simp [hr]
    · rw [if_neg e, if_neg e]
      simp [ih]
/-- The document's set: what comes behind. -/
def docS (nm id : ByteArray) (l : List Rf) : List Rf := rsetG nm id (emp id) l
theorem docS_mov (l : List Rf) (u : Up) (h : Ri2 l) : docS u.nm u.new l = movR l u := by
  rw [docS, movR]
  by_cases e : emp u.new = true
  · rw [if_pos e, e, (emp_iff _).1 e]
    exact rset_del u.nm l h
  · rw [if_neg e, Bool.not_eq_true _ |>.mp e]
    exact rset_set u.nm u.new l h
/-- Refs that the document's call hands back. -/
def RsTo (w : World) (hd : ByteArray) (L : List Rf) (e : Ending) (w' : World) : Prop := ∃ v, e = .returned (.agg #[.string hd, v]) ∧ w'.ownsRow w.heap.size 61 2 v L.length (rfsV L) ∧ Below w.heap.size w w'
theorem one_refY (a b : ByteArray) (X : World) (g : Nat) (hX : X.heap[g]? = some (.cells #[.string a, .string b] 61 (0, 0))) (j : Nat) (u : Value) (h : (rfV ⟨a, b⟩)[j]? = some u) : X.cell? ((⟨g, 0, none⟩ : Addr).add j) = some u := by
  rw [Addr.add_lit, Nat.zero_add]
  match j, h with
  | 0, h => exact cellAt hX (by simpa [rfV] using h)
  | 1, h => exact cellAt hX (by simpa [rfV] using h)
  | j + 2, h => simp [rfV] at h
theorem below_grow {w X w3 : World} {r : Option Nat} (hX : Below w.heap.size w X) (hg : X.grownBy w3 r) (hr : ∀ k, r = some k → k < w.heap.size → False) : Below w.heap.size w w3 :=
  ⟨hg.os.trans hX.os, hg.tape.trans hX.tape, hg.output.trans hX.output, Nat.le_trans hX.size hg.size, fun k hk => (hg.block k (Nat.lt_of_lt_of_le hk hX.size) (fun e => hr k e.symm hk)).trans (hX.block k hk)⟩
end Go.Proofs.Ytecdjejemohkgaa.Rf
namespace Go.Proofs.Ytecdjejemohkgaa.Rf
open Cb Go.RowKit Go.Shelf
set_option maxHeartbeats 6400000 in
set_option maxRecDepth 100000 in
theorem docset_any (hd : ByteArray) (v : Value) (l : List Rf) (nm id : ByteArray) (w : World) (h : RRow w v l) (hl : l.length ≤ 100000) :
    Calls Try.prog 28 #[.agg #[.string hd, v], .string nm, .string id] w fun e w' => RsTo w hd (docS nm id l) e w' := by
  have HTO : Hid (∀ e w', RsTo w hd (docS nm id l) e w' ↔ ∃ v, e = .returned (.agg #[.string hd, v]) ∧ w'.ownsRow w.heap.size 61 2 v (docS nm id l).length (rfsV (docS nm id l)) ∧ Below w.heap.size w w') := hideIt (fun _ _ => Iff.rfl)
  obtain ⟨i0, hi0, hz0, hz1, hz2⟩ := info_parts infoRr
  obtain ⟨W, hW⟩ : ∃ W, (w.alloc (.cells #[.string hd, v] 30)).alloc (.cells #[.string ⟨#[]⟩, .slice none 0 0] 30) = W := ⟨_, rfl⟩
  have hsz : W.heap.size = w.heap.size + 2 := by rw [← hW]; simp
  have hb : Below w.heap.size w W := by rw [← hW]; exact ((Below.refl _ w).alloc (Nat.le_refl _) _).alloc (by simp) _
  have hbx : W.heap[w.heap.size]? = some (.cells #[.string hd, v] 30 (0, 0)) := by
    rw [← hW, Below.heap_alloc _ _ _ (by simp)]; exact alloc_at rfl
  have hrs : W.heap[w.heap.size + 1]? = some (.cells #[.string ⟨#[]⟩, .slice none 0 0] 30 (0, 0)) := by rw [← hW]; exact alloc_at (by simp)
  have HF : Hid (∀ w', Below W.heap.size W w' → w'.heap[w.heap.size]? = some (.cells #[.string hd, v] 30 (0, 0)) ∧ w'.heap[w.heap.size + 1]? = some (.cells #[.string ⟨#[]⟩, .slice none 0 0] 30 (0, 0))) := hideIt (fun w' hb' => ⟨(hb'.block _ (by omega)).trans hbx, (hb'.block _ (by omega)).trans hrs⟩)
  have HB := hideIt hb
  have HW := hideIt hW
  have HSZ := hideIt hsz
  obtain ⟨n, hn⟩ : ∃ n, l.length = n := ⟨_, rfl⟩
  have HN := hideIt hn
  have nI : (n : Int) ≤ 100000 := by omega
  have HR : Hid (∀ i x, l[i]? = some x → ∃ b o c, v = .slice (some ⟨b, o, none⟩) n c ∧ ∀ w', Below W.heap.size W w' → w'.cell? ⟨b, o + i * 2, none⟩ = some (.string x.nm) ∧ w'.cell? ⟨b, o + i * 2 + 1, none⟩ = some (.string x.id)) := hideIt (fun i x hi => by
    have hil := (List.getElem?_eq_some_iff.1 hi).1
    obtain ⟨b, o, c, e, _, _, h3⟩ := h.cells (by omega)
    rw [hn] at e
    exact ⟨b, o, c, e, fun w' hb' => h3 i x hi w' (below_step hb (Nat.le_refl _) hb')⟩)
  obtain ⟨D, hD⟩ : ∃ D, docS nm id l = D := ⟨_, rfl⟩
  obtain ⟨e0, he0⟩ : ∃ e, emp id = e := ⟨_, rfl⟩
  have em1 : (id.toList == []) = e0 := he0
  have em2 : id.toList.isEmpty = e0 := (emp_is id).trans he0
  have HD0 : Hid (D = [] ++ rsetG nm id e0 (l.drop 0)) := hideIt (by rw [← hD, docS, he0]; rfl)
  rw [hD] at HTO ⊢
  obtain ⟨h0, sa, c, hv, h1, h2, h3⟩ := h
  subst hv
  rw [hn] at HR h1 HW HF ⊢
  have x0 := cellAt (i := 1) hbx rfl
  rw [hn] at x0
  clear h0 h3 hn hD hW hb hsz hbx hrs he0
  go_enter Try.func28, Try.ntmps28
  go_wp2
  rw [HW.out]
  go_loopw [7, 8, 9] (fun u q t wr => ∃ (i : Nat) (acc : List Rf) (inn : Bool), i ≤ n ∧ t = .int .i64 (i : Int) ∧ q = .bool inn ∧ wr.ownsRow W.heap.size 61 2 u acc.length (rfsV acc) ∧ acc.length ≤ 2 * i ∧ Below W.heap.size W wr ∧ D = acc ++ rsetG nm id inn (l.drop i)) (fun _ _ t _ => n - (intOf t).toNat)
  case atStart => exact ⟨0, [], e0, by omega, rfl, by first | rfl | (rw [em2]) | (rw [em1]), by have h := new_empty W.heap.size 2 W 61 (Nat.le_refl _); rw [HSZ.out] at h ⊢; exact h, by simp, new_below W _, HD0.out⟩
  case round =>
    obtain ⟨i, acc, inn, hi, rfl, rfl, ho, hal, hbb, hDD⟩ := hrel
    have HO := hideIt ho
    have HBB := hideIt hbb
    have HDD := hideIt hDD
    obtain ⟨m, hm⟩ : ∃ m, acc.length = m := ⟨_, rfl⟩
    obtain ⟨ua, uc, hv⟩ := own_slice ho
    subst hv
    rw [hm] at HO hal ⊢
    have HM := hideIt hm
    have f0 := cellAt (i := 0) (HF.out _ hbb).1 rfl
    have f1 := cellAt (i := 1) (HF.out _ hbb).1 rfl
    clear ho hbb hDD hm x0
    by_cases hlt : i < n
    · have i0' : (0 : Int) ≤ (i : Int) := by omega
      have i1 : (i : Int) < (n : Int) := by omega
      have i2 : decide ((i : Int) < (n : Int)) = true := decide_eq_true i1
      obtain ⟨⟨xn, xd⟩, hxi⟩ : ∃ x, l[i]? = some x := ⟨l[i]'(by rw [HN.out]; exact hlt), by simp⟩
      obtain ⟨b, o, c', e, hcc⟩ := HR.out i _ hxi
      cases e
      obtain ⟨c0, c1⟩ := hcc wr HBB.out
      have HDS : Hid (D = acc ++ ((if (!inn && !decide (lt xn nm)) = true then [⟨nm, id⟩] else []) ++ (if xn = nm then [] else [⟨xn, xd⟩]) ++ rsetG nm id (inn || !decide (lt xn nm)) (l.drop (i + 1)))) := hideIt (by rw [HDD.out, rset_at nm id inn l i _ hxi])
      have hbl := bl_lt xn nm
      have htl := tl_eq (a := xn) (b := nm)
      have hne3 := fun e : ¬ xn = nm => (tl_ne e).2
      obtain ⟨t, ht⟩ : ∃ t, decide (lt xn nm) = t := ⟨_, rfl⟩
      rw [ht] at hbl HDS
      have HXB : Hid (∀ w' : World, w'.heap[wr.heap.size]? = some (.cells #[.string xn, .string xd] 61 (0, 0)) → w'.cell? ⟨wr.heap.size, 0, none⟩ = some (.string xn) ∧ w'.cell? ⟨wr.heap.size, 1, none⟩ = some (.string xd)) := hideIt (fun w' this => ⟨cellAt this rfl, cellAt this rfl⟩)
      have HOB : Hid (∀ k, (Value.slice ua m uc).ownBlock = some k → W.heap.size ≤ k ∧ k < wr.heap.size) := hideIt (fun k hk => ⟨row_ge HO.out k hk, own_block_lt HO.out hk⟩)
      have HXX := hideIt (new_below wr (.cells #[.string xn, .string xd] 61))
      have HWR : Hid (W.heap.size ≤ wr.heap.size) := hideIt HBB.out.size
      clear hcc hxi ht
      cases inn <;> cases t
      · by_cases he : xn = nm
        · rw [decide_eq_true he] at htl
          have hte : (xn.toList = nm.toList) = True := eq_true (by rw [he])
          clear hne3
          have HDN : Hid (D = acc ++ [Rf.mk nm id] ++ rsetG nm id true (l.drop (i + 1))) := hideIt (by rw [HDS.out]; simp [he])
          clear he
          go_wp2_with (first | (at_builtin; refine wpList_append_own _ rfl _ _ 28 rfl W.heap.size 61 i0 (.agg #[.string ⟨#[]⟩, .string ⟨#[]⟩]) 2 32 Try.underlying28 hi0 hz0 hz1 hz2 rfl (by decide) _ m (rfsV acc) rfl (own_below (own_below HO.out HXX.out) (new_below (wr.alloc (.cells #[.string xn, .string xd] 61)) _)) ⟨wr.heap.size + 1, 0, none⟩ 1 1 (rfV (Rf.mk nm id)) rfl rfl (one_refY _ _ _ _ (alloc_at (w := (wr.alloc (.cells #[.string xn, .string xd] 61))) (by simp))) (fun u hu => rfsV_one [Rf.mk nm id] u (by simpa [rfsV] using hu)) (by unfold maxLen; omega) (by omega) (by have := (below_step HBB.out (Nat.le_refl _) HXX.out).size; simp at *; omega) ?_; intro v7 w7 hown hg _; obtain ⟨g7, cp7, hv⟩ := row_form2 hown; subst hv; have O7 := hideIt hown; have B7 := hideIt (Below.grown (below_step (below_step HBB.out (Nat.le_refl _) HXX.out) (Nat.le_refl _) (new_below (wr.alloc (.cells #[.string xn, .string xd] 61)) _)) hg (by have := (below_step HBB.out (Nat.le_refl _) HXX.out).size; simp at *; omega) (row_ge HO.out)); have hxk := (hg.block wr.heap.size (by simp; omega) (fun e => absurd (HOB.out _ e.symm).2 (by omega))).trans ((Below.heap_alloc _ _ _ (by simp)).trans (alloc_at rfl)); have xb := HXB.out w7 hxk; obtain ⟨k0, k1⟩ := xb; clear hxk; clear hown hg))
          go_roundw
          case rel => exact ⟨i + 1, acc ++ [Rf.mk nm id], true, by omega, by go_num, rfl, (by rw [show (acc ++ [Rf.mk nm id]).length = m + 1 by simp [HM.out]]; simpa [rfsV, List.append_assoc] using O7.out), by simp [HM.out]; omega, B7.out, HDN.out⟩
          case measure => simp [intOf]; omega
        · rw [decide_eq_false he] at htl
          have hte := hne3 he
          clear hne3
          have HDN : Hid (D = acc ++ [Rf.mk nm id] ++ [Rf.mk xn xd] ++ rsetG nm id true (l.drop (i + 1))) := hideIt (by rw [HDS.out]; simp [he])
          clear he
          go_wp2_with (first
            | (at_builtin; refine wpList_append_own _ rfl _ _ 28 rfl W.heap.size 61 i0 (.agg #[.string ⟨#[]⟩, .string ⟨#[]⟩]) 2 32 Try.underlying28 hi0 hz0 hz1 hz2 rfl (by decide) _ (m + 1) (rfsV acc ++ rfV (Rf.mk nm id)) rfl (own_below (O7.out) (new_below w7 _)) ⟨w7.heap.size, 0, none⟩ 1 1 (rfV (Rf.mk xn xd)) rfl rfl (one_refY _ _ _ _ (alloc_at (w := w7) (by simp))) (fun u hu => rfsV_one [Rf.mk xn xd] u (by simpa [rfsV] using hu)) (by unfold maxLen; omega) (by omega) (by have := (B7.out).size; simp at *; omega) ?_; intro v8 w8 hown hg _; obtain ⟨g8, cp8, hv⟩ := row_form2 hown; subst hv; have O8 := hideIt hown; have B8 := hideIt (Below.grown (below_step (B7.out) (Nat.le_refl _) (new_below w7 _)) hg (by have := (B7.out).size; simp at *; omega) (row_ge O7.out)); clear hown hg)
            | (at_builtin; refine wpList_append_own _ rfl _ _ 28 rfl W.heap.size 61 i0 (.agg #[.string ⟨#[]⟩, .string ⟨#[]⟩]) 2 32 Try.underlying28 hi0 hz0 hz1 hz2 rfl (by decide) _ m (rfsV acc) rfl (own_below (own_below HO.out HXX.out) (new_below (wr.alloc (.cells #[.string xn, .string xd] 61)) _)) ⟨wr.heap.size + 1, 0, none⟩ 1 1 (rfV (Rf.mk nm id)) rfl rfl (one_refY _ _ _ _ (alloc_at (w := (wr.alloc (.cells #[.string xn, .string xd] 61))) (by simp))) (fun u hu => rfsV_one [Rf.mk nm id] u (by simpa [rfsV] using hu)) (by unfold maxLen; omega) (by omega) (by have := (below_step HBB.out (Nat.le_refl _) HXX.out).size; simp at *; omega) ?_; intro v7 w7 hown hg _; obtain ⟨g7, cp7, hv⟩ := row_form2 hown; subst hv; have O7 := hideIt hown; have B7 := hideIt (Below.grown (below_step (below_step HBB.out (Nat.le_refl _) HXX.out) (Nat.le_refl _) (new_below (wr.alloc (.cells #[.string xn, .string xd] 61)) _)) hg (by have := (below_step HBB.out (Nat.le_refl _) HXX.out).size; simp at *; omega) (row_ge HO.out)); have hxk := (hg.block wr.heap.size (by simp; omega) (fun e => absurd (HOB.out _ e.symm).2 (by omega))).trans ((Below.heap_alloc _ _ _ (by simp)).trans (alloc_at rfl)); have xb := HXB.out w7 hxk; obtain ⟨k0, k1⟩ := xb; clear hxk; clear hown hg))
          go_roundw
          case rel => exact ⟨i + 1, acc ++ [Rf.mk nm id] ++ [Rf.mk xn xd], true, by omega, by go_num, rfl, (by rw [show (acc ++ [Rf.mk nm id] ++ [Rf.mk xn xd]).length = m + 2 by simp [HM.out]]; simpa [rfsV, List.append_assoc] using O8.out), by simp [HM.out]; omega, B8.out, HDN.out⟩
          case measure => simp [intOf]; omega
      · by_cases he : xn = nm
        · rw [decide_eq_true he] at htl
          have hte : (xn.toList = nm.toList) = True := eq_true (by rw [he])
          clear hne3
          have HDN : Hid (D = acc ++ rsetG nm id false (l.drop (i + 1))) := hideIt (by rw [HDS.out]; simp [he])
          clear he
          go_wp2
          go_roundw
          case rel => exact ⟨i + 1, acc, false, by omega, by go_num, rfl, (by rw [HM.out]; exact own_below HO.out HXX.out), by rw [HM.out]; omega, below_step HBB.out (Nat.le_refl _) HXX.out, HDN.out⟩
          case measure => simp [intOf]; omega
        · rw [decide_eq_false he] at htl
          have hte := hne3 he
          clear hne3
          have HDN : Hid (D = acc ++ [Rf.mk xn xd] ++ rsetG nm id false (l.drop (i + 1))) := hideIt (by rw [HDS.out]; simp [he])
          clear he
          go_wp2_with (first | (at_builtin; refine wpList_append_own _ rfl _ _ 28 rfl W.heap.size 61 i0 (.agg #[.string ⟨#[]⟩, .string ⟨#[]⟩]) 2 32 Try.underlying28 hi0 hz0 hz1 hz2 rfl (by decide) _ m (rfsV acc) rfl (own_below (own_below HO.out HXX.out) (new_below (wr.alloc (.cells #[.string xn, .string xd] 61)) _)) ⟨wr.heap.size + 1, 0, none⟩ 1 1 (rfV (Rf.mk xn xd)) rfl rfl (one_refY _ _ _ _ (alloc_at (w := (wr.alloc (.cells #[.string xn, .string xd] 61))) (by simp))) (fun u hu => rfsV_one [Rf.mk xn xd] u (by simpa [rfsV] using hu)) (by unfold maxLen; omega) (by omega) (by have := (below_step HBB.out (Nat.le_refl _) HXX.out).size; simp at *; omega) ?_; intro v8 w8 hown hg _; obtain ⟨g8, cp8, hv⟩ := row_form2 hown; subst hv; have O8 := hideIt hown; have B8 := hideIt (Below.grown (below_step (below_step HBB.out (Nat.le_refl _) HXX.out) (Nat.le_refl _) (new_below (wr.alloc (.cells #[.string xn, .string xd] 61)) _)) hg (by have := (below_step HBB.out (Nat.le_refl _) HXX.out).size; simp at *; omega) (row_ge HO.out)); clear hown hg))
          go_roundw
          case rel => exact ⟨i + 1, acc ++ [Rf.mk xn xd], false, by omega, by go_num, rfl, (by rw [show (acc ++ [Rf.mk xn xd]).length = m + 1 by simp [HM.out]]; simpa [rfsV, List.append_assoc] using O8.out), by simp [HM.out]; omega, B8.out, HDN.out⟩
          case measure => simp [intOf]; omega
      · by_cases he : xn = nm
        · rw [decide_eq_true he] at htl
          have hte : (xn.toList = nm.toList) = True := eq_true (by rw [he])
          clear hne3
          have HDN : Hid (D = acc ++ rsetG nm id true (l.drop (i + 1))) := hideIt (by rw [HDS.out]; simp [he])
          clear he
          go_wp2
          go_roundw
          case rel => exact ⟨i + 1, acc, true, by omega, by go_num, rfl, (by rw [HM.out]; exact own_below HO.out HXX.out), by rw [HM.out]; omega, below_step HBB.out (Nat.le_refl _) HXX.out, HDN.out⟩
          case measure => simp [intOf]; omega
        · rw [decide_eq_false he] at htl
          have hte := hne3 he
          clear hne3
          have HDN : Hid (D = acc ++ [Rf.mk xn xd] ++ rsetG nm id true (l.drop (i + 1))) := hideIt (by rw [HDS.out]; simp [he])
          clear he
          go_wp2_with (first | (at_builtin; refine wpList_append_own _ rfl _ _ 28 rfl W.heap.size 61 i0 (.agg #[.string ⟨#[]⟩, .string ⟨#[]⟩]) 2 32 Try.underlying28 hi0 hz0 hz1 hz2 rfl (by decide) _ m (rfsV acc) rfl (own_below (own_below HO.out HXX.out) (new_below (wr.alloc (.cells #[.string xn, .string xd] 61)) _)) ⟨wr.heap.size + 1, 0, none⟩ 1 1 (rfV (Rf.mk xn xd)) rfl rfl (one_refY _ _ _ _ (alloc_at (w := (wr.alloc (.cells #[.string xn, .string xd] 61))) (by simp))) (fun u hu => rfsV_one [Rf.mk xn xd] u (by simpa [rfsV] using hu)) (by unfold maxLen; omega) (by omega) (by have := (below_step HBB.out (Nat.le_refl _) HXX.out).size; simp at *; omega) ?_; intro v8 w8 hown hg _; obtain ⟨g8, cp8, hv⟩ := row_form2 hown; subst hv; have O8 := hideIt hown; have B8 := hideIt (Below.grown (below_step (below_step HBB.out (Nat.le_refl _) HXX.out) (Nat.le_refl _) (new_below (wr.alloc (.cells #[.string xn, .string xd] 61)) _)) hg (by have := (below_step HBB.out (Nat.le_refl _) HXX.out).size; simp at *; omega) (row_ge HO.out)); clear hown hg))
          go_roundw
          case rel => exact ⟨i + 1, acc ++ [Rf.mk xn xd], true, by omega, by go_num, rfl, (by rw [show (acc ++ [Rf.mk xn xd]).length = m + 1 by simp [HM.out]]; simpa [rfsV, List.append_assoc] using O8.out), by simp [HM.out]; omega, B8.out, HDN.out⟩
          case measure => simp [intOf]; omega
      · by_cases he : xn = nm
        · rw [decide_eq_true he] at htl
          have hte : (xn.toList = nm.toList) = True := eq_true (by rw [he])
          clear hne3
          have HDN : Hid (D = acc ++ rsetG nm id true (l.drop (i + 1))) := hideIt (by rw [HDS.out]; simp [he])
          clear he
          go_wp2
          go_roundw
          case rel => exact ⟨i + 1, acc, true, by omega, by go_num, rfl, (by rw [HM.out]; exact own_below HO.out HXX.out), by rw [HM.out]; omega, below_step HBB.out (Nat.le_refl _) HXX.out, HDN.out⟩
          case measure => simp [intOf]; omega
        · rw [decide_eq_false he] at htl
          have hte := hne3 he
          clear hne3
          have HDN : Hid (D = acc ++ [Rf.mk xn xd] ++ rsetG nm id true (l.drop (i + 1))) := hideIt (by rw [HDS.out]; simp [he])
          clear he
          go_wp2_with (first | (at_builtin; refine wpList_append_own _ rfl _ _ 28 rfl W.heap.size 61 i0 (.agg #[.string ⟨#[]⟩, .string ⟨#[]⟩]) 2 32 Try.underlying28 hi0 hz0 hz1 hz2 rfl (by decide) _ m (rfsV acc) rfl (own_below (own_below HO.out HXX.out) (new_below (wr.alloc (.cells #[.string xn, .string xd] 61)) _)) ⟨wr.heap.size + 1, 0, none⟩ 1 1 (rfV (Rf.mk xn xd)) rfl rfl (one_refY _ _ _ _ (alloc_at (w := (wr.alloc (.cells #[.string xn, .string xd] 61))) (by simp))) (fun u hu => rfsV_one [Rf.mk xn xd] u (by simpa [rfsV] using hu)) (by unfold maxLen; omega) (by omega) (by have := (below_step HBB.out (Nat.le_refl _) HXX.out).size; simp at *; omega) ?_; intro v8 w8 hown hg _; obtain ⟨g8, cp8, hv⟩ := row_form2 hown; subst hv; have O8 := hideIt hown; have B8 := hideIt (Below.grown (below_step (below_step HBB.out (Nat.le_refl _) HXX.out) (Nat.le_refl _) (new_below (wr.alloc (.cells #[.string xn, .string xd] 61)) _)) hg (by have := (below_step HBB.out (Nat.le_refl _) HXX.out).size; simp at *; omega) (row_ge HO.out)); clear hown hg))
          go_roundw
          case rel => exact ⟨i + 1, acc ++ [Rf.mk xn xd], true, by omega, by go_num, rfl, (by rw [show (acc ++ [Rf.mk xn xd]).length = m + 1 by simp [HM.out]]; simpa [rfsV, List.append_assoc] using O8.out), by simp [HM.out]; omega, B8.out, HDN.out⟩
          case measure => simp [intOf]; omega
    · have i2 : decide ((i : Int) < (n : Int)) = false := decide_eq_false (by omega)
      have hdr : l.drop i = [] := List.drop_of_length_le (by rw [HN.out]; omega)
      have HFX := hideIt (fun w' hb => (HF.out w' hb).2)
      cases inn
      · have HFN : Hid (D = acc ++ [⟨nm, id⟩]) := hideIt (by rw [HDD.out, hdr]; rfl)
        clear hdr
        go_wp2_with (first | (at_builtin; refine wpList_append_own _ rfl _ _ 28 rfl W.heap.size 61 i0 (.agg #[.string ⟨#[]⟩, .string ⟨#[]⟩]) 2 32 Try.underlying28 hi0 hz0 hz1 hz2 rfl (by decide) _ m (rfsV acc) rfl (own_below HO.out (new_below wr _)) ⟨wr.heap.size, 0, none⟩ 1 1 (rfV (Rf.mk nm id)) rfl rfl (one_ref2 wr nm id) (fun u hu => rfsV_one [Rf.mk nm id] u (by simpa [rfsV] using hu)) (by unfold maxLen; omega) (by omega) (by have := HBB.out.size; simp; omega) ?_; intro v3 w7 hown7 hg7 _; obtain ⟨g7, cp7, hv7⟩ := row_form2 hown7; subst hv7; have O7 := hideIt hown7; have B7 := hideIt (Below.grown (below_step HBB.out (Nat.le_refl _) (new_below wr _)) hg7 (by have := HBB.out.size; simp; omega) (row_ge HO.out)); have r0 := cellAt (i := 0) (HFX.out _ B7.out) rfl; have r1 := cellAt (i := 1) (HFX.out _ B7.out) rfl; have z0 := frz (HFX.out _ B7.out) 0; have z1 := frz (HFX.out _ B7.out) 1; have y0 := cellAt (i := 0) (HF.out _ B7.out).1 rfl; have RES := hideIt (HFX.out _ B7.out); clear hown7 hg7))
        (try simp only [Exit.inBlock, Exit.then])
        refine bodyPost_ret (v := .agg #[.string hd, .slice (some ⟨g7, 0, none⟩) (m + 1) cp7]) (results_cell_row Try.results28 _ _ (w.heap.size + 1) 30 _ (0, 0) _ rfl ?_ Try.underlying30 rfl infoRs2) rfl ((HTO.out _ _).2 ⟨_, rfl, ?_, ?_⟩)
        · rw [heap_setCell_same _ (w.heap.size + 1) 1 _ 30 _ (heap_setCell_same _ (w.heap.size + 1) 0 _ 30 _ RES.out)]
          rfl
        · rw [HFN.out]
          have ho := O7.out
          have e : rfsV (acc ++ [Rf.mk nm id]) = rfsV acc ++ rfV (Rf.mk nm id) := by rw [rfsV_append]; simp [rfsV]
          rw [e, show (acc ++ [Rf.mk nm id]).length = m + 1 by rw [List.length_append, HM.out]; rfl]
          exact own_less (own_other (own_other ho ⟨w.heap.size + 1, 0, none⟩ (by show w.heap.size + 1 < _; have := HSZ.out; omega) _) ⟨w.heap.size + 1, 1, none⟩ (by show w.heap.size + 1 < _; have := HSZ.out; omega) _) (by have := HSZ.out; omega)
        · exact ((below_step HB.out (Nat.le_refl _) B7.out).setCell (p := ⟨w.heap.size + 1, 0, none⟩) (by show w.heap.size ≤ w.heap.size + 1; omega) _).setCell (p := ⟨w.heap.size + 1, 1, none⟩) (by show w.heap.size ≤ w.heap.size + 1; omega) _
      · have HFN : Hid (D = acc) := hideIt (by rw [HDD.out, hdr]; simp [rsetG])
        have RES := hideIt (HFX.out _ HBB.out)
        have r0 := cellAt (i := 0) RES.out rfl
        have r1 := cellAt (i := 1) RES.out rfl
        have z0 := frz RES.out 0
        have z1 := frz RES.out 1
        clear hdr
        go_wp2
        (try simp only [Exit.inBlock, Exit.then])
        refine bodyPost_ret (v := .agg #[.string hd, .slice ua m uc]) (results_cell_row Try.results28 _ _ (w.heap.size + 1) 30 _ (0, 0) _ rfl ?_ Try.underlying30 rfl infoRs2) rfl ((HTO.out _ _).2 ⟨_, rfl, ?_, ?_⟩)
        · rw [heap_setCell_same _ (w.heap.size + 1) 1 _ 30 _ (heap_setCell_same _ (w.heap.size + 1) 0 _ 30 _ RES.out)]
          rfl
        · rw [HFN.out]
          have ho := HO.out
          rw [HM.out]
          exact own_less (own_other (own_other ho ⟨w.heap.size + 1, 0, none⟩ (by show w.heap.size + 1 < _; have := HSZ.out; omega) _) ⟨w.heap.size + 1, 1, none⟩ (by show w.heap.size + 1 < _; have := HSZ.out; omega) _) (by have := HSZ.out; omega)
        · exact ((below_step HB.out (Nat.le_refl _) HBB.out).setCell (p := ⟨w.heap.size + 1, 0, none⟩) (by show w.heap.size ≤ w.heap.size + 1; omega) _).setCell (p := ⟨w.heap.size + 1, 1, none⟩) (by show w.heap.size ≤ w.heap.size + 1; omega) _
end Go.Proofs.Ytecdjejemohkgaa.Rf
namespace Go.Proofs.Ytecdjejemohkgaa.Rf
open Cb Go.RowKit Go.Shelf
theorem upd_nil (hd : ByteArray) (l : List Rf) (u : Up) (f : ByteArray → ByteArray → Bool) : upd hd l [] u f = if okN u.nm = false then 50 else if (emp u.new = false ∧ decide (u.new.size = 32) = false) ∨ (emp u.new = true ∧ emp u.old = true) then 1 else why2 hd l u f := by
  have h0 : ¬ hasN u.nm [] = true := by simp [hasN]
  rw [upd, ask, if_neg h0]
  by_cases h1 : okN u.nm = false
  · rw [if_pos h1, if_pos h1]; rfl
  · rw [if_neg h1, if_neg h1]
    by_cases h2 : (emp u.new = false ∧ decide (u.new.size = 32) = false) ∨ (emp u.new = true ∧ emp u.old = true)
    · rw [if_pos h2, if_pos h2]; rfl
    · rw [if_neg h2, if_neg h2]; rfl
theorem refK_three (s : ByteArray) : refK s = 0 ∨ refK s = 1 ∨ refK s = 2 := by
  unfold refK
  repeat' split
  all_goals first | exact .inl rfl | exact .inr (.inl rfl) | exact .inr (.inr rfl)
set_option maxHeartbeats 6400000 in
set_option maxRecDepth 100000 in
theorem docwhy_any (hd : ByteArray) (v va : Value) (l : List Rf) (u : Up) (g : List Rf) (w : World) (h : RRow w v l) (hl : l.length ≤ 100000) (hg : RRow w va g) (hgl : g.length ≤ 100000) (hz : u.nm.size ≤ 9223372036854775807) :
    Calls Try.prog 27 #[.agg #[.string hd, v], upA u, va] w fun e w' => e = .returned (.int .i64 (upd hd l [] u (fwdB g))) ∧ Below w.heap.size w w' := by
  obtain ⟨W, hW⟩ : ∃ W, (w.alloc (.cells #[.string hd, v] 30)).alloc (.cells #[.string u.nm, .string u.old, .string u.new, .bool u.force] 35) = W := ⟨_, rfl⟩
  have hb : Below w.heap.size w W := by rw [← hW]; exact ((Below.refl _ w).alloc (Nat.le_refl _) _).alloc (by simp) _
  have hsz : W.heap.size = w.heap.size + 2 := by rw [← hW]; simp
  have hbx : W.heap[w.heap.size + 1]? = some (.cells #[.string u.nm, .string u.old, .string u.new, .bool u.force] 35 (0, 0)) := by rw [← hW]; exact alloc_at (by simp)
  have hg0 : W.heap[w.heap.size]? = some (.cells #[.string hd, v] 30 (0, 0)) := by
    rw [← hW, Below.heap_alloc _ _ _ (by simp)]; exact alloc_at rfl
  have HF : Hid (∀ w', Below W.heap.size W w' → (w'.cell? ⟨w.heap.size, 0, none⟩ = some (.string hd) ∧ w'.cell? ⟨w.heap.size, 1, none⟩ = some v) ∧ w'.cell? ⟨w.heap.size + 1, 0, none⟩ = some (.string u.nm) ∧ w'.cell? ⟨w.heap.size + 1, 1, none⟩ = some (.string u.old) ∧ w'.cell? ⟨w.heap.size + 1, 2, none⟩ = some (.string u.new) ∧ w'.cell? ⟨w.heap.size + 1, 3, none⟩ = some (.bool u.force)) := hideIt (fun w' hb' => by
    have a1 := (hb'.block w.heap.size (by omega)).trans hg0
    have a2 := (hb'.block (w.heap.size + 1) (by omega)).trans hbx
    exact ⟨⟨cellAt a1 rfl, cellAt a1 rfl⟩, cellAt a2 rfl, cellAt a2 rfl, cellAt a2 rfl, cellAt a2 rfl⟩)
  have HG := hideIt (refget_any hd v l u.nm W (h.below hb) hl)
  have HL := hideIt (fun w => refrefX_any u.nm w hz)
  have HM : Hid (∀ w', Below W.heap.size W w' → Calls Try.prog 10 #[va, .string u.old, .string u.new] w' fun e w2 => e = .returned (.bool (fwdB g u.old u.new)) ∧ Below w'.heap.size w' w2) := hideIt (fun w' hb' => forward_any va g u.old u.new w' (hg.below (below_step hb (Nat.le_refl _) hb')) hgl)
  have HW := hideIt hW
  have HB2 : Hid (∀ w1, Below W.heap.size W w1 → Below w.heap.size w w1) := hideIt (fun w1 h => below_step hb (Nat.le_refl _) h)
  have B0 := hideIt (Below.refl W.heap.size W)
  obtain ⟨p, hp⟩ : ∃ p, upd hd l [] u (fwdB g) = p := ⟨_, rfl⟩
  have hko := refK_ok u.nm
  have hkh := refK_head u.nm
  have hk3 := refK_three u.nm
  have hpp : p = (if okN u.nm = false then 50 else if (emp u.new = false ∧ decide (u.new.size = 32) = false) ∨ (emp u.new = true ∧ emp u.old = true) then 1 else (if decide (getR l u.nm = u.old) = false then 130 else if emp u.new = true ∧ decide (u.nm = hd) = true then 132 else if emp u.new = true ∨ emp u.old = true ∨ decide (u.new = u.old) = true ∨ u.force = true then 0 else if headB u.nm = false then 133 else if fwdB g u.old u.new = false then 131 else 0)) := by
    rw [← hp, upd_nil, why2]
    simp only [decide_eq_false_iff_not, decide_eq_true_eq]
  rw [hp]
  obtain ⟨ar, cr, hvr⟩ : ∃ ar cr, v = .slice ar l.length cr := by
    obtain ⟨_, a, c, e, _⟩ := h
    exact ⟨_, _, e⟩
  obtain ⟨aa, ca, hva⟩ : ∃ aa ca, va = .slice aa g.length ca := by
    obtain ⟨_, a, c, e, _⟩ := hg
    exact ⟨_, _, e⟩
  subst hvr hva
  obtain ⟨G, hG⟩ : ∃ G, getR l u.nm = G := ⟨_, rfl⟩
  rw [hG] at HG hpp
  obtain ⟨mm, hmm⟩ : ∃ m, fwdB g u.old u.new = m := ⟨_, rfl⟩
  rw [hmm] at HM hpp
  clear hp hW hb hbx hg0 h hg hsz hz hl hgl hG hmm
  generalize g.length = na at *
  generalize l.length = nr at *
  have e1 : (u.new.toList == []) = emp u.new := rfl
  have e2 := emp_is u.new
  have e3 : (u.old.toList == []) = emp u.old := rfl
  have e4 := emp_is u.old
  have g2 := tl_eq (a := u.nm) (b := hd)
  have g3 := tl_eq (a := u.old) (b := u.new)
  have g3e : decide (u.new = u.old) = decide (u.old = u.new) := decide_eq_decide.2 ⟨Eq.symm, Eq.symm⟩
  rw [g3e] at hpp
  unfold upA
  obtain ⟨a, o, c, fo⟩ := u
  simp only at HF HG HL HM hko hkh hk3 hpp e1 e2 e3 e4 g2 g3
  generalize okN a = A at *
  generalize headB a = H at *
  generalize refK a = K at *
  have e5 : (c.size : Int) = 32 ↔ decide (c.size = 32) = true := by rw [decide_eq_true_eq]; omega
  generalize decide (c.size = 32) = z at *
  generalize decide (a = hd) = s2 at *
  generalize decide (o = c) = s3 at *
  generalize emp c = C at *
  generalize emp o = O at *
  by_cases k0 : K = 0
  · subst k0
    obtain rfl : A = false := by cases A <;> simp_all
    clear hko hkh hk3 e5
    have HZ : Hid (p = 50) := hideIt (by rw [hpp]; first | rfl | simp | simp_all)
    clear hpp
    go_enter Try.func27, Try.ntmps27
    go_wp2_with (first | (go_at_call 20; rw [HW.out]; refine HG.out.mono ?_; rintro e w1 ⟨rfl, hb1⟩; have B1 := hideIt hb1; obtain ⟨⟨p0, p1⟩, p2, p3, p4, p5⟩ := HF.out _ hb1; clear hb1) | (go_at_call 30; refine (HL.out _).mono ?_; rintro e w2 ⟨rfl, hb2⟩; have B2 := hideIt (below_step B1.out (Nat.le_refl _) hb2); obtain ⟨⟨q0, q1⟩, q2, q3, q4, q5⟩ := HF.out _ B2.out; clear hb2))
    (try simp only [Exit.inBlock, Exit.then])
    go_ret
    exact ⟨by rw [HZ.out]; rfl, HB2.out _ B2.out⟩
  · obtain rfl : A = true := by cases A <;> simp_all
    have k1 : (K == 0) = false := by simpa using k0
    clear hko
    cases C
    · cases z
      · have e6 : ¬ (c.size : Int) = 32 := fun e => by simp at e5; omega
        have e7 : ((c.size : Int) == 32) = false := by simpa using e6
        clear e5 hkh hk3
        have HZ : Hid (p = 1) := hideIt (by rw [hpp]; first | rfl | simp | simp_all)
        clear hpp
        go_enter Try.func27, Try.ntmps27
        go_wp2_with (first | (go_at_call 20; rw [HW.out]; refine HG.out.mono ?_; rintro e w1 ⟨rfl, hb1⟩; have B1 := hideIt hb1; obtain ⟨⟨p0, p1⟩, p2, p3, p4, p5⟩ := HF.out _ hb1; clear hb1) | (go_at_call 30; refine (HL.out _).mono ?_; rintro e w2 ⟨rfl, hb2⟩; have B2 := hideIt (below_step B1.out (Nat.le_refl _) hb2); obtain ⟨⟨q0, q1⟩, q2, q3, q4, q5⟩ := HF.out _ B2.out; clear hb2))
        (try simp only [Exit.inBlock, Exit.then])
        go_ret
        exact ⟨by rw [HZ.out]; rfl, HB2.out _ B2.out⟩
      · have e6 : (c.size : Int) = 32 := e5.2 rfl
        clear e5
        by_cases s1 : G = o
        · subst s1
          have gg : (G.toList == G.toList) = true := by simp
          cases O
          · cases s3
            · cases fo
              · by_cases k2 : K = 2
                · subst k2
                  obtain rfl : H = false := by cases H <;> simp_all
                  clear hkh hk3 k0 k1
                  have HZ : Hid (p = 133) := hideIt (by rw [hpp]; first | rfl | simp | simp_all)
                  clear hpp
                  go_enter Try.func27, Try.ntmps27
                  go_wp2_with (first | (go_at_call 20; rw [HW.out]; refine HG.out.mono ?_; rintro e w1 ⟨rfl, hb1⟩; have B1 := hideIt hb1; obtain ⟨⟨p0, p1⟩, p2, p3, p4, p5⟩ := HF.out _ hb1; clear hb1) | (go_at_call 30; refine (HL.out _).mono ?_; rintro e w3 ⟨rfl, hb3⟩; have B3 := hideIt (below_step B2.out (Nat.le_refl _) hb3); obtain ⟨⟨r0, r1⟩, r2, r3, r4, r5⟩ := HF.out _ B3.out; clear hb3) | (go_at_call 30; refine (HL.out _).mono ?_; rintro e w2 ⟨rfl, hb2⟩; have B2 := hideIt (below_step B1.out (Nat.le_refl _) hb2); obtain ⟨⟨q0, q1⟩, q2, q3, q4, q5⟩ := HF.out _ B2.out; clear hb2))
                  (try simp only [Exit.inBlock, Exit.then])
                  go_ret
                  exact ⟨by rw [HZ.out]; rfl, HB2.out _ B3.out⟩
                · obtain rfl : K = 1 := by omega
                  obtain rfl : H = true := by cases H <;> simp_all
                  clear hkh hk3 k0 k1 k2
                  cases mm
                  · skip
                    have HZ : Hid (p = 131) := hideIt (by rw [hpp]; first | rfl | simp | simp_all)
                    clear hpp
                    go_enter Try.func27, Try.ntmps27
                    go_wp2_with (first | (go_at_call 20; rw [HW.out]; refine HG.out.mono ?_; rintro e w1 ⟨rfl, hb1⟩; have B1 := hideIt hb1; obtain ⟨⟨p0, p1⟩, p2, p3, p4, p5⟩ := HF.out _ hb1; clear hb1) | (go_at_call 30; refine (HL.out _).mono ?_; rintro e w3 ⟨rfl, hb3⟩; have B3 := hideIt (below_step B2.out (Nat.le_refl _) hb3); obtain ⟨⟨r0, r1⟩, r2, r3, r4, r5⟩ := HF.out _ B3.out; clear hb3) | (go_at_call 30; refine (HL.out _).mono ?_; rintro e w2 ⟨rfl, hb2⟩; have B2 := hideIt (below_step B1.out (Nat.le_refl _) hb2); obtain ⟨⟨q0, q1⟩, q2, q3, q4, q5⟩ := HF.out _ B2.out; clear hb2) | (go_at_call 10; refine (HM.out _ B3.out).mono ?_; rintro e w4 ⟨rfl, hb4⟩; have B4 := hideIt (below_step B3.out (Nat.le_refl _) hb4); clear hb4))
                    (try simp only [Exit.inBlock, Exit.then])
                    go_ret
                    exact ⟨by rw [HZ.out]; rfl, HB2.out _ B4.out⟩
                  · skip
                    have HZ : Hid (p = 0) := hideIt (by rw [hpp]; first | rfl | simp | simp_all)
                    clear hpp
                    go_enter Try.func27, Try.ntmps27
                    go_wp2_with (first | (go_at_call 20; rw [HW.out]; refine HG.out.mono ?_; rintro e w1 ⟨rfl, hb1⟩; have B1 := hideIt hb1; obtain ⟨⟨p0, p1⟩, p2, p3, p4, p5⟩ := HF.out _ hb1; clear hb1) | (go_at_call 30; refine (HL.out _).mono ?_; rintro e w3 ⟨rfl, hb3⟩; have B3 := hideIt (below_step B2.out (Nat.le_refl _) hb3); obtain ⟨⟨r0, r1⟩, r2, r3, r4, r5⟩ := HF.out _ B3.out; clear hb3) | (go_at_call 30; refine (HL.out _).mono ?_; rintro e w2 ⟨rfl, hb2⟩; have B2 := hideIt (below_step B1.out (Nat.le_refl _) hb2); obtain ⟨⟨q0, q1⟩, q2, q3, q4, q5⟩ := HF.out _ B2.out; clear hb2) | (go_at_call 10; refine (HM.out _ B3.out).mono ?_; rintro e w4 ⟨rfl, hb4⟩; have B4 := hideIt (below_step B3.out (Nat.le_refl _) hb4); clear hb4))
                    (try simp only [Exit.inBlock, Exit.then])
                    go_ret
                    exact ⟨by rw [HZ.out]; rfl, HB2.out _ B4.out⟩
              · clear hkh hk3
                have HZ : Hid (p = 0) := hideIt (by rw [hpp]; first | rfl | simp | simp_all)
                clear hpp
                go_enter Try.func27, Try.ntmps27
                go_wp2_with (first | (go_at_call 20; rw [HW.out]; refine HG.out.mono ?_; rintro e w1 ⟨rfl, hb1⟩; have B1 := hideIt hb1; obtain ⟨⟨p0, p1⟩, p2, p3, p4, p5⟩ := HF.out _ hb1; clear hb1) | (go_at_call 30; refine (HL.out _).mono ?_; rintro e w2 ⟨rfl, hb2⟩; have B2 := hideIt (below_step B1.out (Nat.le_refl _) hb2); obtain ⟨⟨q0, q1⟩, q2, q3, q4, q5⟩ := HF.out _ B2.out; clear hb2))
                (try simp only [Exit.inBlock, Exit.then])
                go_ret
                exact ⟨by rw [HZ.out]; rfl, HB2.out _ B2.out⟩
            · clear hkh hk3
              have HZ : Hid (p = 0) := hideIt (by rw [hpp]; first | rfl | simp | simp_all)
              clear hpp
              go_enter Try.func27, Try.ntmps27
              go_wp2_with (first | (go_at_call 20; rw [HW.out]; refine HG.out.mono ?_; rintro e w1 ⟨rfl, hb1⟩; have B1 := hideIt hb1; obtain ⟨⟨p0, p1⟩, p2, p3, p4, p5⟩ := HF.out _ hb1; clear hb1) | (go_at_call 30; refine (HL.out _).mono ?_; rintro e w2 ⟨rfl, hb2⟩; have B2 := hideIt (below_step B1.out (Nat.le_refl _) hb2); obtain ⟨⟨q0, q1⟩, q2, q3, q4, q5⟩ := HF.out _ B2.out; clear hb2))
              (try simp only [Exit.inBlock, Exit.then])
              go_ret
              exact ⟨by rw [HZ.out]; rfl, HB2.out _ B2.out⟩
          · clear hkh hk3
            have HZ : Hid (p = 0) := hideIt (by rw [hpp]; first | rfl | simp | simp_all)
            clear hpp
            go_enter Try.func27, Try.ntmps27
            go_wp2_with (first | (go_at_call 20; rw [HW.out]; refine HG.out.mono ?_; rintro e w1 ⟨rfl, hb1⟩; have B1 := hideIt hb1; obtain ⟨⟨p0, p1⟩, p2, p3, p4, p5⟩ := HF.out _ hb1; clear hb1) | (go_at_call 30; refine (HL.out _).mono ?_; rintro e w2 ⟨rfl, hb2⟩; have B2 := hideIt (below_step B1.out (Nat.le_refl _) hb2); obtain ⟨⟨q0, q1⟩, q2, q3, q4, q5⟩ := HF.out _ B2.out; clear hb2))
            (try simp only [Exit.inBlock, Exit.then])
            go_ret
            exact ⟨by rw [HZ.out]; rfl, HB2.out _ B2.out⟩
        · have s1' : decide (G = o) = false := decide_eq_false s1
          have s2' : (G.toList == o.toList) = false := (tl_ne s1).1
          have s3' : ¬ G.toList = o.toList := (tl_ne s1).2
          rw [s1'] at hpp
          clear hkh hk3 s1 s1'
          have HZ : Hid (p = 130) := hideIt (by rw [hpp]; first | rfl | simp | simp_all)
          clear hpp
          go_enter Try.func27, Try.ntmps27
          go_wp2_with (first | (go_at_call 20; rw [HW.out]; refine HG.out.mono ?_; rintro e w1 ⟨rfl, hb1⟩; have B1 := hideIt hb1; obtain ⟨⟨p0, p1⟩, p2, p3, p4, p5⟩ := HF.out _ hb1; clear hb1) | (go_at_call 30; refine (HL.out _).mono ?_; rintro e w2 ⟨rfl, hb2⟩; have B2 := hideIt (below_step B1.out (Nat.le_refl _) hb2); obtain ⟨⟨q0, q1⟩, q2, q3, q4, q5⟩ := HF.out _ B2.out; clear hb2))
          (try simp only [Exit.inBlock, Exit.then])
          go_ret
          exact ⟨by rw [HZ.out]; rfl, HB2.out _ B2.out⟩
    · clear e5
      cases O
      · skip
        by_cases s1 : G = o
        · subst s1
          have gg : (G.toList == G.toList) = true := by simp
          cases s2
          · clear hkh hk3
            have HZ : Hid (p = 0) := hideIt (by rw [hpp]; first | rfl | simp | simp_all)
            clear hpp
            go_enter Try.func27, Try.ntmps27
            go_wp2_with (first | (go_at_call 20; rw [HW.out]; refine HG.out.mono ?_; rintro e w1 ⟨rfl, hb1⟩; have B1 := hideIt hb1; obtain ⟨⟨p0, p1⟩, p2, p3, p4, p5⟩ := HF.out _ hb1; clear hb1) | (go_at_call 30; refine (HL.out _).mono ?_; rintro e w2 ⟨rfl, hb2⟩; have B2 := hideIt (below_step B1.out (Nat.le_refl _) hb2); obtain ⟨⟨q0, q1⟩, q2, q3, q4, q5⟩ := HF.out _ B2.out; clear hb2))
            (try simp only [Exit.inBlock, Exit.then])
            go_ret
            exact ⟨by rw [HZ.out]; rfl, HB2.out _ B2.out⟩
          · clear hkh hk3
            have HZ : Hid (p = 132) := hideIt (by rw [hpp]; first | rfl | simp | simp_all)
            clear hpp
            go_enter Try.func27, Try.ntmps27
            go_wp2_with (first | (go_at_call 20; rw [HW.out]; refine HG.out.mono ?_; rintro e w1 ⟨rfl, hb1⟩; have B1 := hideIt hb1; obtain ⟨⟨p0, p1⟩, p2, p3, p4, p5⟩ := HF.out _ hb1; clear hb1) | (go_at_call 30; refine (HL.out _).mono ?_; rintro e w2 ⟨rfl, hb2⟩; have B2 := hideIt (below_step B1.out (Nat.le_refl _) hb2); obtain ⟨⟨q0, q1⟩, q2, q3, q4, q5⟩ := HF.out _ B2.out; clear hb2))
            (try simp only [Exit.inBlock, Exit.then])
            go_ret
            exact ⟨by rw [HZ.out]; rfl, HB2.out _ B2.out⟩
        · have s1' : decide (G = o) = false := decide_eq_false s1
          have s2' : (G.toList == o.toList) = false := (tl_ne s1).1
          have s3' : ¬ G.toList = o.toList := (tl_ne s1).2
          rw [s1'] at hpp
          clear hkh hk3 s1 s1'
          have HZ : Hid (p = 130) := hideIt (by rw [hpp]; first | rfl | simp | simp_all)
          clear hpp
          go_enter Try.func27, Try.ntmps27
          go_wp2_with (first | (go_at_call 20; rw [HW.out]; refine HG.out.mono ?_; rintro e w1 ⟨rfl, hb1⟩; have B1 := hideIt hb1; obtain ⟨⟨p0, p1⟩, p2, p3, p4, p5⟩ := HF.out _ hb1; clear hb1) | (go_at_call 30; refine (HL.out _).mono ?_; rintro e w2 ⟨rfl, hb2⟩; have B2 := hideIt (below_step B1.out (Nat.le_refl _) hb2); obtain ⟨⟨q0, q1⟩, q2, q3, q4, q5⟩ := HF.out _ B2.out; clear hb2))
          (try simp only [Exit.inBlock, Exit.then])
          go_ret
          exact ⟨by rw [HZ.out]; rfl, HB2.out _ B2.out⟩
      · clear hkh hk3
        have HZ : Hid (p = 1) := hideIt (by rw [hpp]; first | rfl | simp | simp_all)
        clear hpp
        go_enter Try.func27, Try.ntmps27
        go_wp2_with (first | (go_at_call 20; rw [HW.out]; refine HG.out.mono ?_; rintro e w1 ⟨rfl, hb1⟩; have B1 := hideIt hb1; obtain ⟨⟨p0, p1⟩, p2, p3, p4, p5⟩ := HF.out _ hb1; clear hb1) | (go_at_call 30; refine (HL.out _).mono ?_; rintro e w2 ⟨rfl, hb2⟩; have B2 := hideIt (below_step B1.out (Nat.le_refl _) hb2); obtain ⟨⟨q0, q1⟩, q2, q3, q4, q5⟩ := HF.out _ B2.out; clear hb2))
        (try simp only [Exit.inBlock, Exit.then])
        go_ret
        exact ⟨by rw [HZ.out]; rfl, HB2.out _ B2.out⟩
end Go.Proofs.Ytecdjejemohkgaa.Rf
namespace Go.Proofs.Ytecdjejemohkgaa.Rf
open Cb Go.RowKit Go.Shelf
/-- The document's updates, one behind the other. -/
def docR (f : ByteArray → ByteArray → Bool) (hd : ByteArray) (l : List Rf) : List Rf → List Up → List Up → Int × List Rf
  | m, _, [] => (0, m)
  | m, ah, u :: r => if hasN u.nm ah = true then (1, m) else if upd hd l [] u f = 0 then docR f hd l (movR m u) (ah ++ [u]) r else (upd hd l [] u f, m)
/-- What the document's Apply answers. -/
def docP (f : ByteArray → ByteArray → Bool) (hd : ByteArray) (l : List Rf) (us : List Up) : Int × List Rf :=
  if 256 < us.length then (3, l) else if ¬ chkR hd l = 0 then (chkR hd l, l)
  else if ¬ (docR f hd l l [] us).1 = 0 then ((docR f hd l l [] us).1, l) else if 256 < (docR f hd l l [] us).2.length then (3, l) else (0, (docR f hd l l [] us).2)
theorem upd_split (hd : ByteArray) (m l : List Rf) (ah : List Up) (u : Up) (f : ByteArray → ByteArray → Bool) (hg : getR m u.nm = getR l u.nm) (hn : hasN u.nm ah = false) : upd hd m ah u f = upd hd l [] u f := by
  have h0 : hasN u.nm [] = false := by simp [hasN]
  have ha : ask ah u = ask [] u := by simp only [ask, hn, h0]
  have hw : why2 hd m u f = why2 hd l u f := by simp only [why2, hg]
  simp only [upd, ha, hw]
theorem upd_has (hd : ByteArray) (m : List Rf) (ah : List Up) (u : Up) (f : ByteArray → ByteArray → Bool) (hn : hasN u.nm ah = true) : upd hd m ah u f = 1 := by
  have ha : ask ah u = 1 := by simp only [ask, hn, if_true]
  rw [upd, ha, if_neg (by decide)]
theorem get_set (nm id n2 : ByteArray) (h : ¬ nm = n2) : ∀ l : List Rf, getR (setR nm id l) n2 = getR l n2
  | [] => by simp [setR, getR, h]
  | x :: r => by
    rw [setR]
    by_cases e : x.nm = nm
    · rw [if_pos e, getR, if_neg h, getR, if_neg (by rw [e]; exact h)]
    · rw [if_neg e]
      by_cases e2 : lt nm x.nm
      · rw [if_pos e2, getR, if_neg h]
      · rw [if_neg e2, getR, getR, get_set nm id n2 h r]
theorem get_del (nm n2 : ByteArray) (h : ¬ nm = n2) : ∀ l : List Rf, getR (delR nm l) n2 = getR l n2
  | [] => rfl
  | x :: r => by
    rw [delR]
    by_cases e : x.nm = nm
    · rw [if_pos e, getR, if_neg (by rw [e]; exact h)]
    · rw [if_neg e, getR, getR, get_del nm n2 h r]
theorem get_mov (u : Up) (n2 : ByteArray) (h : ¬ u.nm = n2) (l : List Rf) : getR (movR l u) n2 = getR l n2 := by
  rw [movR]
  split
  · exact get_del _ _ h l
  · exact get_set _ _ _ h l
theorem has_app (n2 : ByteArray) (ah : List Up) (u : Up) (h : hasN n2 (ah ++ [u]) = false) : hasN n2 ah = false ∧ ¬ u.nm = n2 := by
  simpa [hasN, List.any_append] using h
theorem app_doc (f : ByteArray → ByteArray → Bool) (hd : ByteArray) (l : List Rf) : ∀ (us : List Up) (m : List Rf) (ah : List Up), (∀ n, hasN n ah = false → getR m n = getR l n) → appR f hd m ah us = docR f hd l m ah us
  | [], _, _, _ => rfl
  | u :: r, m, ah, h => by
    rw [appR, docR]
    by_cases hn : hasN u.nm ah = true
    · rw [if_pos hn, upd_has hd m ah u f hn, if_neg (by decide)]
    · have hn' : hasN u.nm ah = false := by simpa using hn
      rw [if_neg hn, upd_split hd m l ah u f (h _ hn') hn', app_doc f hd l r (movR m u) (ah ++ [u]) (fun n k => by
        obtain ⟨k1, k2⟩ := has_app n ah u k
        rw [get_mov u n k2, h n k1])]
theorem appP_docP (f : ByteArray → ByteArray → Bool) (hd : ByteArray) (l : List Rf) (us : List Up) : appP f hd l us = docP f hd l us := by
  rw [appP, docP, app_doc f hd l us l [] (fun _ _ => rfl)]
theorem ki_step {i : Nat} {m : List Rf} {u : Up} (h : KI i m) (hi : i < 1000) (h1 : okN u.nm = true) (h2 : emp u.new = true ∨ u.new.size = 32) : KI (i + 1) (movR m u) := by
  obtain ⟨k1, k2, k3, k4⟩ := h
  rw [movR]
  by_cases he : emp u.new = true
  · rw [if_pos he]
    exact ⟨ri2_del _ k1, by have := len_del u.nm m; omega, by omega, fun x hx => k4 x (mem_del hx)⟩
  · rw [if_neg he]
    refine ⟨ri2_set _ _ k1, by have := len_set u.nm u.new m; omega, by omega, fun x hx => ?_⟩
    rcases mem_set hx with hx | hx
    · rw [hx]
      exact ⟨h1, by rcases h2 with e | e; exact absurd e he; exact e⟩
    · exact k4 x hx
/-- Where a row lies, if it has elements. -/
def Away (v : Value) (m : List Rf) (g : Nat) : Prop := 0 < m.length → ∀ b o n c, v = .slice (some ⟨b, o, none⟩) n c → b ≠ g
theorem rrow_set {w : World} {v : Value} {l : List Rf} (h : RRow w v l) (p : Addr) (hne : Away v l p.block) (u : Value) : RRow (w.setCell p u) v l := by
  obtain ⟨h0, a, c, h1, h2, h3, h4⟩ := h
  refine ⟨h0, a, c, h1, h2, h3, fun hp => ?_⟩
  obtain ⟨b, o, e, hc⟩ := h4 hp
  have hb : b ≠ p.block := hne hp b o l.length c (by rw [h1, e])
  refine ⟨b, o, e, by simp [World.setCell] at *; exact hc.1, fun i x hx => ?_⟩
  have := hc.2 i x hx
  unfold World.cell? at this ⊢
  rw [heap_setCell_other w p b u hb]
  exact this
theorem away_row {w : World} {v : Value} {l : List Rf} (h : RRow w v l) (g : Nat) (hg : w.heap.size ≤ g) : Away v l g := by
  intro hp b o n c e
  obtain ⟨h0, a, c, h1, h2, h3, h4⟩ := h
  obtain ⟨b', o', e', hc⟩ := h4 hp
  rw [h1, e'] at e
  cases e
  have := hc.1
  omega
theorem away_own {w : World} {B g : Nat} {t : TypeId} {v : Value} {l : List Rf} (h : w.ownsRow B t 2 v l.length (rfsV l)) (hg : g < B) : Away v l g := by
  intro hp b o n c e
  have := row_ge h b (by rw [e] at h ⊢; rcases h.2 with ⟨e1, _⟩ | ⟨g', cap, cur, e1, _⟩; cases e1; cases e1; rfl)
  omega
structure DA (w0 : World) (b9 : Nat) (hd : ByteArray) (v : Value) (m : List Rf) (vm : Value) (w : World) : Prop where
  bel : Below w0.heap.size w0 w
  l1 : w0.heap.size + 1 < b9
  l3 : b9 < w.heap.size
  c3 : w.heap[w0.heap.size]? = some (.cells #[.string hd, v] 30 (0, 0))
  c6 : w.heap[w0.heap.size + 1]? = some (.cells #[.string ⟨#[]⟩, .slice none 0 0] 30 (0, 0))
  c9 : w.heap[b9]? = some (.cells #[.string hd, vm] 30 (0, 0))
  rm : RRow w vm m
  n9 : Away vm m b9
  n6 : Away vm m (w0.heap.size + 1)
theorem DA.below {w0 w w' : World} {b9 : Nat} {hd : ByteArray} {v : Value} {m : List Rf} {vm : Value} (h : DA w0 b9 hd v m vm w) (hb : Below w.heap.size w w') : DA w0 b9 hd v m vm w' :=
  have h1 := h.l1; have h3 := h.l3
  ⟨below_step h.bel (Nat.le_refl _) hb, h1, Nat.lt_of_lt_of_le h3 hb.size, (hb.block _ (by omega)).trans h.c3, (hb.block _ (by omega)).trans h.c6, (hb.block _ h3).trans h.c9, h.rm.below hb, h.n9, h.n6⟩
theorem DA.move {w0 w w' : World} {b9 : Nat} {hd : ByteArray} {v : Value} {m m' : List Rf} {vm v' : Value} (h : DA w0 b9 hd v m vm w) (hb : Below w.heap.size w w') (hr : w'.ownsRow w.heap.size 61 2 v' m'.length (rfsV m')) : DA w0 b9 hd v m' v' ((w'.setCell ⟨b9, 0, none⟩ (.string hd)).setCell ⟨b9, 1, none⟩ v') := by
  have h1 := h.l1; have h3 := h.l3; have hs := hb.size
  have r' : RRow w' v' m' := VRow.of_row hr
  have a9 : Away v' m' b9 := away_own hr h3
  have a6 : Away v' m' (w0.heap.size + 1) := away_own hr (by omega)
  have d := h.below hb
  refine ⟨((below_step h.bel (Nat.le_refl _) hb).setCell (p := ⟨b9, 0, none⟩) (by show w0.heap.size ≤ b9; omega) _).setCell (p := ⟨b9, 1, none⟩) (by show w0.heap.size ≤ b9; omega) _, h1, by simp [World.setCell] at *; omega, ?_, ?_, ?_, rrow_set (rrow_set r' ⟨b9, 0, none⟩ a9 _) ⟨b9, 1, none⟩ a9 _, a9, a6⟩
  · rw [heap_setCell_other _ ⟨b9, 1, none⟩ _ _ (by simp; omega), heap_setCell_other _ ⟨b9, 0, none⟩ _ _ (by simp; omega)]; exact d.c3
  · rw [heap_setCell_other _ ⟨b9, 1, none⟩ _ _ (by simp; omega), heap_setCell_other _ ⟨b9, 0, none⟩ _ _ (by simp; omega)]; exact d.c6
  · rw [heap_setCell_same _ b9 1 _ 30 _ (heap_setCell_same _ b9 0 _ 30 _ d.c9)]
    rfl
/-- Refs that the document's call hands back, and an error. -/
def DTo (w : World) (hd : ByteArray) (a : Int × List Rf) (e : Ending) (w' : World) : Prop := ∃ v, e = .returned (.tuple #[.agg #[.string hd, v], .int .i64 a.1]) ∧ RRow w' v a.2 ∧ Below w.heap.size w w'
theorem doc_end {w X : World} {hd : ByteArray} {a : Int × List Rf} {E : Int} {L : List Rf} {v : Value} (hq : a = (E, L)) (hb : Below w.heap.size w X) (hr : RRow X v L) (hn : Away v L (w.heap.size + 1)) :
    DTo w hd a (.returned (.tuple #[.agg #[.string hd, v], .int .i64 E])) ((X.setCell ⟨w.heap.size + 1, 0, none⟩ (.string hd)).setCell ⟨w.heap.size + 1, 1, none⟩ v) := by
  subst hq
  exact ⟨v, rfl, rrow_set (rrow_set hr ⟨w.heap.size + 1, 0, none⟩ hn _) ⟨w.heap.size + 1, 1, none⟩ hn _, (hb.setCell (p := ⟨w.heap.size + 1, 0, none⟩) (by show w.heap.size ≤ w.heap.size + 1; omega) _).setCell (p := ⟨w.heap.size + 1, 1, none⟩) (by show w.heap.size ≤ w.heap.size + 1; omega) _⟩
end Go.Proofs.Ytecdjejemohkgaa.Rf
namespace Go.Proofs.Ytecdjejemohkgaa.Rf
open Cb Go.RowKit Go.Shelf
theorem has_at {nm : ByteArray} {us : List Up} {i k : Nat} {u : Up} (hk : k < i) (h : us[k]? = some u) (he : u.nm = nm) : hasN nm (us.take i) = true := by
  refine List.any_eq_true.2 ⟨u, List.mem_of_getElem? (i := k) (by rw [List.getElem?_take_of_lt hk]; exact h), decide_eq_true he⟩
theorem drew_below (w : World) : Below w.heap.size w w.drew := ⟨rfl, rfl, rfl, Nat.le_refl _, fun _ _ => rfl⟩
set_option maxHeartbeats 6400000 in
set_option maxRecDepth 100000 in
theorem docapp_any (hd : ByteArray) (v0 : Value) (l : List Rf) (vu : Value) (us : List Up) (va : Value) (g : List Rf) (w : World) (h : RRow w v0 l) (hl : l.length ≤ 100000) (hu : URow w vu us) (hul : us.length ≤ 1000) (hg : RRow w va g) (hgl : g.length ≤ 100000)
    (hz : hd.size ≤ 9223372036854775807) (hzs : ∀ (i : Nat) (x : Rf), l[i]? = some x → x.nm.size ≤ 9223372036854775807) (hzu : ∀ (i : Nat) (x : Up), us[i]? = some x → x.nm.size ≤ 9223372036854775807) :
    Calls Try.prog 11 #[.agg #[.string hd, v0], vu, va] w fun e w' => DTo w hd (docP (fwdB g) hd l us) e w' := by
  have HP : Hid (docP (fwdB g) hd l us = if 256 < us.length then (3, l) else if ¬ chkR hd l = 0 then (chkR hd l, l)
  else if ¬ (docR (fwdB g) hd l l [] us).1 = 0 then ((docR (fwdB g) hd l l [] us).1, l) else if 256 < (docR (fwdB g) hd l l [] us).2.length then (3, l) else (0, (docR (fwdB g) hd l l [] us).2)) := hideIt rfl
  obtain ⟨W, hW⟩ : ∃ W, (w.alloc (.cells #[.string hd, v0] 30)).alloc (.cells #[.string ⟨#[]⟩, .slice none 0 0] 30) = W := ⟨_, rfl⟩
  have hsz : W.heap.size = w.heap.size + 2 := by rw [← hW]; simp
  have hb : Below w.heap.size w W := by rw [← hW]; exact ((Below.refl _ w).alloc (Nat.le_refl _) _).alloc (by simp) _
  have hbx : W.heap[w.heap.size]? = some (.cells #[.string hd, v0] 30 (0, 0)) := by
    rw [← hW, Below.heap_alloc _ _ _ (by simp)]; exact alloc_at rfl
  have hrs : W.heap[w.heap.size + 1]? = some (.cells #[.string ⟨#[]⟩, .slice none 0 0] 30 (0, 0)) := by rw [← hW]; exact alloc_at (by simp)
  have HF : Hid (∀ w', Below W.heap.size W w' → w'.heap[w.heap.size]? = some (.cells #[.string hd, v0] 30 (0, 0)) ∧ w'.heap[w.heap.size + 1]? = some (.cells #[.string ⟨#[]⟩, .slice none 0 0] 30 (0, 0))) := hideIt (fun w' hb' => ⟨(hb'.block _ (by omega)).trans hbx, (hb'.block _ (by omega)).trans hrs⟩)
  have HB := hideIt hb
  have HW := hideIt hW
  have HSZ := hideIt hsz
  have HR0 : Hid (∀ w', Below w.heap.size w w' → RRow w' v0 l) := hideIt (fun w' hb' => h.below hb')
  have HA0 : Hid (∀ k, w.heap.size ≤ k → Away v0 l k) := hideIt (fun k hk => away_row h k hk)
  have HCK := hideIt (fun (w' : World) (hb' : Below W.heap.size W w') => refcheck_any hd v0 l w' (h.below (below_step hb (Nat.le_refl _) hb')) hl hz hzs)
  have HWY : Hid (∀ i u, us[i]? = some u → ∀ w', Below w.heap.size w w' → Calls Try.prog 27 #[.agg #[.string hd, v0], .agg #[.string u.nm, .string u.old, .string u.new, .bool u.force], va] w' fun e w'' => e = .returned (.int .i64 (upd hd l [] u (fwdB g))) ∧ Below w'.heap.size w' w'') := hideIt (fun i u hi w' hb' => docwhy_any hd v0 va l u g w' (h.below hb') hl (hg.below hb') hgl (hzu i u hi))
  obtain ⟨n, hn⟩ : ∃ n, us.length = n := ⟨_, rfl⟩
  have HN := hideIt hn
  have HUR : Hid (∀ i u, us[i]? = some u → ∃ b o c, vu = .slice (some ⟨b, o, none⟩) n c ∧ ∀ w', Below w.heap.size w w' → w'.cell? ⟨b, o + i * 4, none⟩ = some (.string u.nm) ∧ w'.cell? ⟨b, o + i * 4 + 1, none⟩ = some (.string u.old) ∧ w'.cell? ⟨b, o + i * 4 + 2, none⟩ = some (.string u.new) ∧ w'.cell? ⟨b, o + i * 4 + 3, none⟩ = some (.bool u.force)) := hideIt (fun i u hi => by
    have hil := (List.getElem?_eq_some_iff.1 hi).1
    obtain ⟨b, o, c, e, _, _, h3⟩ := hu.cells (by omega)
    rw [hn] at e
    exact ⟨b, o, c, e, fun w' hb' => h3 i u hi w' hb'⟩)
  obtain ⟨_, a0, c0, hva, _, _, _⟩ := hu
  subst hva
  obtain ⟨_, ga, gc, hga, _, _, _⟩ := hg
  subst hga
  obtain ⟨_, sa, sc, hsa, _, _, _⟩ := h
  subst hsa
  obtain ⟨ll, hll⟩ : ∃ k, l.length = k := ⟨_, rfl⟩
  have HLL := hideIt hll
  rw [hn] at hul HP HUR ⊢
  rw [hll] at HF HW HR0 HA0 HCK HWY hW ⊢
  generalize g.length = gn at *
  have nI : (n : Int) ≤ 1000 := by omega
  clear hW hb hbx hrs hn hzs hz hzu hll hsz hgl
  go_enter Try.func11, Try.ntmps11
  by_cases h256 : 256 < n
  · have d1 : decide ((256 : Int) < (n : Int)) = true := decide_eq_true (by omega)
    have HQ : Hid (docP (fwdB g) hd l us = (3, l)) := hideIt (by rw [HP.out, if_pos h256])
    have hx := HF.out W (Below.refl _ _)
    have x0 := cellAt (i := 0) hx.1 rfl
    have x1 := cellAt (i := 1) hx.1 rfl
    have q0 := cellAt (i := 0) hx.2 rfl
    have q1 := cellAt (i := 1) hx.2 rfl
    have z0 := frz hx.2 0
    have z1 := frz hx.2 1
    clear hx
    go_wp2
    (try simp only [Exit.inBlock, Exit.then])
    have hbb : Below w.heap.size w ((w.alloc (.cells #[.string hd, .slice sa ll sc] 30)).alloc (.cells #[.string hd, .slice sa ll sc] 30)) := ((Below.refl _ w).alloc (Nat.le_refl _) _).alloc (by simp) _
    refine bodyPost_ret (v := .tuple #[.agg #[.string hd, .slice sa ll sc], .int .i64 3]) ?_ rfl ⟨_, by rw [HQ.out], by rw [HQ.out]; exact HR0.out _ hbb, hbb⟩
    rw [results_c2 rfl]
    go_simp
  · have d1 : decide ((256 : Int) < (n : Int)) = false := decide_eq_false (by omega)
    have hp2 := HP.out
    rw [if_neg h256] at hp2
    obtain ⟨z, hz⟩ : ∃ z, chkR hd l = z := ⟨_, rfl⟩
    rw [hz] at HCK hp2
    have HZ := hideIt hz
    have hx := HF.out W (Below.refl _ _)
    have x0 := cellAt (i := 0) hx.1 rfl
    have x1 := cellAt (i := 1) hx.1 rfl
    clear hz hx HP
    by_cases h0 : z = 0
    · subst h0
      rw [if_neg (by simp)] at hp2
      have HP3 := hideIt hp2
      have HK0 : Hid (KI 0 l) := hideIt (by
        have hc := HZ.out
        exact ⟨chkR_ri hc, by have := (chkR_wf hc).1; omega, by omega, (chkR_wf hc).2.2.2⟩)
      clear hp2
      go_wp2_with (first
        | (go_at_call 14; rw [HW.out]; refine (HCK.out _ (Below.refl _ _)).mono ?_; rintro e w1 ⟨rfl, hb1⟩; have B1 := hideIt hb1; have hx1 := HF.out _ hb1; have y0 := cellAt (i := 0) hx1.1 rfl; have y1 := cellAt (i := 1) hx1.1 rfl; clear hx1 hb1))
      have HM0 : Hid (DA w w1.heap.size hd (.slice sa ll sc) l (.slice sa ll sc) (w1.alloc (.cells #[.string hd, .slice sa ll sc] 30))) := hideIt (by
        have s1 := B1.out.size
        have s0 := HSZ.out
        have bb : Below W.heap.size W (w1.alloc (.cells #[.string hd, .slice sa ll sc] 30)) := B1.out.alloc (by omega) _
        have b0 : Below w.heap.size w (w1.alloc (.cells #[.string hd, .slice sa ll sc] 30)) := below_step HB.out (Nat.le_refl _) bb
        exact ⟨b0, by omega, by simp, (HF.out _ bb).1, (HF.out _ bb).2, alloc_at rfl, HR0.out _ b0, HA0.out _ (by omega), HA0.out _ (by omega)⟩)
      obtain ⟨b9, hb9⟩ : ∃ b, w1.heap.size = b := ⟨_, rfl⟩
      rw [hb9] at HM0
      (try rw [hb9])
      clear hb9 x0 x1 y0 y1
      go_loopw [10] (fun t wr => ∃ (i : Nat) (m : List Rf) (vm : Value), i ≤ n ∧ t = .int .i64 (i : Int) ∧ DA w b9 hd (.slice sa ll sc) m vm wr ∧ KI i m ∧ docR (fwdB g) hd l l [] us = docR (fwdB g) hd l m (us.take i) (us.drop i)) (fun t _ => n - (intOf t).toNat)
      case atStart => exact ⟨0, l, _, by omega, rfl, HM0.out, HK0.out, rfl⟩
      case round =>
        obtain ⟨i, m, vm, hi, rfl, am, hKi, hap⟩ := hrel
        have HAM := hideIt am
        have HKI := hideIt hKi
        have HAP := hideIt hap
        obtain ⟨ml, hml⟩ : ∃ ml, m.length = ml := ⟨_, rfl⟩
        have HML := hideIt hml
        obtain ⟨_, ma, mc, hvm, _, _, _⟩ := am.rm
        rw [hml] at hvm
        subst hvm
        clear am hKi hap hml
        by_cases hlt : i < n
        · have i0 : (0 : Int) ≤ (i : Int) := by omega
          have i1 : (i : Int) < (n : Int) := by omega
          have i2 : decide ((i : Int) < (n : Int)) = true := decide_eq_true i1
          obtain ⟨⟨un, uo, uw, uf⟩, hui⟩ : ∃ u, us[i]? = some u := ⟨us[i]'(by rw [HN.out]; exact hlt), by simp⟩
          have HUI := hideIt hui
          obtain ⟨b, o, c, e, hcc⟩ := HUR.out i _ hui
          cases e
          have HCC := hideIt hcc
          have HY2 := hideIt (HWY.out i _ hui)
          have HDR : Hid (us.drop i = ⟨un, uo, uw, uf⟩ :: us.drop (i + 1)) := hideIt (by
            obtain ⟨hl', e⟩ := List.getElem?_eq_some_iff.1 hui
            rw [← e]
            exact List.drop_eq_getElem_cons hl')
          have HTK : Hid (us.take (i + 1) = us.take i ++ [⟨un, uo, uw, uf⟩]) := hideIt (by rw [List.take_add_one, hui]; rfl)
          clear hui hcc
          go_wp2
          rename World => wo
          go_loopw [11] (fun t wk => ∃ k : Nat, k ≤ i ∧ t = .int .i64 (k : Int) ∧ Below wo.heap.size wo wk ∧ hasN un (us.take k) = false) (fun t _ => i - (intOf t).toNat)
          case atStart => exact ⟨0, by omega, rfl, Below.refl _ _, rfl⟩
          case round =>
            obtain ⟨k, hk, rfl, hbk, hnk⟩ := hrel
            have A2 := hideIt (HAM.out.below hbk)
            have HBK := hideIt hbk
            have HNK := hideIt hnk
            have hbw : Below w.heap.size w wr := A2.out.bel
            obtain ⟨c0, c1, c2, c3⟩ := HCC.out wr hbw
            clear hbk hnk
            by_cases hkl : k < i
            · have k0 : (0 : Int) ≤ (k : Int) := by omega
              have k1 : (k : Int) < (i : Int) := by omega
              have k1n : (k : Int) < (n : Int) := by omega
              have k2 : decide ((k : Int) < (i : Int)) = true := decide_eq_true k1
              obtain ⟨⟨kn, ko, kw, kf⟩, hki⟩ : ∃ u, us[k]? = some u := ⟨us[k]'(by rw [HN.out]; omega), by simp⟩
              obtain ⟨b', o', c', e, hck⟩ := HUR.out k _ hki
              cases e
              obtain ⟨g0, g1, g2, g3⟩ := hck wr hbw
              have HKI2 := hideIt hki
              have htl := tl_eq (a := kn) (b := un)
              have HTK2 : Hid (us.take (k + 1) = us.take k ++ [⟨kn, ko, kw, kf⟩]) := hideIt (by rw [List.take_add_one, hki]; rfl)
              clear hck hki
              by_cases hq : kn = un
              · have ht2 : (kn.toList = un.toList) = True := eq_true (by rw [hq])
                rw [decide_eq_true hq] at htl
                have HQ : Hid (docP (fwdB g) hd l us = (1, l)) := hideIt (by
                  have : docR (fwdB g) hd l l [] us = (1, m) := by rw [HAP.out, HDR.out, docR, if_pos (has_at hkl HKI2.out hq)]
                  rw [HP3.out, this]; simp only; rw [if_pos (by decide)])
                have x0 := cellAt (i := 0) A2.out.c3 rfl
                have x1 := cellAt (i := 1) A2.out.c3 rfl
                have q0 := cellAt (i := 0) A2.out.c6 rfl
                have q1 := cellAt (i := 1) A2.out.c6 rfl
                have z0 := frz A2.out.c6 0
                have z1 := frz A2.out.c6 1
                have HX := hideIt (below_step hbw (Nat.le_refl _) (drew_below wr))
                clear hq hbw
                go_wp2
                go_region
                all_goals go_wp2
                all_goals (try simp only [Exit.inBlock, Exit.then])
                all_goals refine bodyPost_ret (v := .tuple #[.agg #[.string hd, .slice sa ll sc], .int .i64 1]) ?_ rfl (doc_end HQ.out (by first | exact HX.out | exact A2.out.bel) (HR0.out _ (by first | exact HX.out | exact A2.out.bel)) (HA0.out _ (by omega)))
                all_goals rw [results_c2 rfl]
                all_goals go_simp
              · have ht2 : ¬ kn.toList = un.toList := (tl_ne hq).2
                rw [decide_eq_false hq] at htl
                have HNK2 : Hid (hasN un (us.take (k + 1)) = false) := hideIt (by
                  rw [HTK2.out]
                  have := HNK.out
                  unfold hasN at this ⊢
                  rw [List.any_append, this]
                  simp [hq])
                have HX := hideIt (below_step HBK.out (Nat.le_refl _) (drew_below wr))
                clear hq hbw
                go_wp2
                go_region
                all_goals go_wp2
                all_goals go_roundw
                all_goals first
                  | exact ⟨k + 1, by omega, by go_num, by first | exact HX.out | exact HBK.out, HNK2.out⟩
                  | (simp [intOf]; omega)
            · have k2 : decide ((k : Int) < (i : Int)) = false := decide_eq_false (by omega)
              obtain rfl : k = i := by omega
              obtain ⟨E, hE⟩ : ∃ E, upd hd l [] ⟨un, uo, uw, uf⟩ (fwdB g) = E := ⟨_, rfl⟩
              rw [hE] at HY2
              have HEE := hideIt hE
              have x0 := cellAt (i := 0) A2.out.c3 rfl
              have x1 := cellAt (i := 1) A2.out.c3 rfl
              have HXD := hideIt (drew_below wr)
              have HXW := hideIt (below_step hbw (Nat.le_refl _) (drew_below wr))
              clear hE
              by_cases hE0 : E = 0
              · subst hE0
                obtain ⟨u1, u2, u3, u4⟩ := upd_ok HEE.out
                have HMVD : Hid (docS un uw m = movR m ⟨un, uo, uw, uf⟩) := hideIt (docS_mov m ⟨un, uo, uw, uf⟩ HKI.out.1)
                have HKI3 : Hid (KI (k + 1) (movR m ⟨un, uo, uw, uf⟩)) := hideIt (ki_step HKI.out (by omega) u1 u2)
                have HST : Hid (∀ w', RRow w' (.slice ma ml mc) m → Calls Try.prog 28 #[.agg #[.string hd, .slice ma ml mc], .string un, .string uw] w' fun e w'' => RsTo w' hd (movR m ⟨un, uo, uw, uf⟩) e w'') := hideIt (fun w' hr => by
                  rw [← HMVD.out]
                  exact docset_any hd (.slice ma ml mc) m un uw w' hr (by have := HKI.out.2.1; have := HKI.out.2.2.1; omega))
                have HAP2 : Hid (docR (fwdB g) hd l l [] us = docR (fwdB g) hd l (movR m ⟨un, uo, uw, uf⟩) (us.take (k + 1)) (us.drop (k + 1))) := hideIt (by rw [HAP.out, HDR.out, docR, if_neg (by rw [HNK.out]; decide), if_pos HEE.out, HTK.out])
                clear u1 u2 u3 u4
                go_wp2
                go_region_law (first
                  | (go_simp; go_at_call 27; refine (HY2.out _ HXW.out).mono ?_; rintro e w5 ⟨rfl, hb5⟩; have A5 := hideIt (A2.out.below (below_step HXD.out (Nat.le_refl _) hb5)); have n0 := cellAt (i := 0) A5.out.c9 rfl; have n1 := cellAt (i := 1) A5.out.c9 rfl; obtain ⟨j0, j1, j2, j3⟩ := HCC.out w5 A5.out.bel; have A6 := hideIt (A5.out.below (drew_below w5)); clear hb5; dsimp only))
                all_goals go_wp2
                all_goals go_region_law (first
                  | (go_simp; go_at_call 28; refine (HST.out _ A6.out.rm).mono ?_; rintro e w6 ⟨v6, rfl, hr6, hb6⟩; obtain ⟨na, nc, hv⟩ := own_slice hr6; subst hv; have A7 := hideIt (A6.out.move hb6 hr6); have hc9 := (A6.out.below hb6).c9; have p0 := cellAt (i := 0) hc9 rfl; have p1 := cellAt (i := 1) hc9 rfl; have f0 := frz hc9 0; have f1 := frz hc9 1; clear hb6 hr6 hc9; dsimp only))
                all_goals go_wp2
                all_goals go_roundw
                all_goals first
                  | exact ⟨k + 1, _, _, by omega, by go_num, A7.out, HKI3.out, HAP2.out⟩
                  | (simp [intOf]; omega)
              · have e2 : (E == 0) = false := by simpa using hE0
                have HQ : Hid (docP (fwdB g) hd l us = (E, l)) := hideIt (by
                  have : docR (fwdB g) hd l l [] us = (E, m) := by rw [HAP.out, HDR.out, docR, if_neg (by rw [HNK.out]; decide), if_neg (by rw [HEE.out]; exact hE0), HEE.out]
                  rw [HP3.out, this]; simp only; rw [if_pos hE0])
                go_wp2
                go_region_law (first
                  | (go_simp; go_at_call 27; refine (HY2.out _ HXW.out).mono ?_; rintro e w5 ⟨rfl, hb5⟩; have A5 := hideIt (A2.out.below (below_step HXD.out (Nat.le_refl _) hb5)); have y0 := cellAt (i := 0) A5.out.c3 rfl; have y1 := cellAt (i := 1) A5.out.c3 rfl; have q0 := cellAt (i := 0) A5.out.c6 rfl; have q1 := cellAt (i := 1) A5.out.c6 rfl; have z0 := frz A5.out.c6 0; have z1 := frz A5.out.c6 1; clear hb5; dsimp only))
                all_goals go_wp2
                all_goals (try simp only [Exit.inBlock, Exit.then])
                all_goals refine bodyPost_ret (v := .tuple #[.agg #[.string hd, .slice sa ll sc], .int .i64 E]) ?_ rfl (doc_end HQ.out A5.out.bel (HR0.out _ A5.out.bel) (HA0.out _ (by omega)))
                all_goals rw [results_c2 rfl]
                all_goals go_simp
        · have i2 : decide ((i : Int) < (n : Int)) = false := decide_eq_false (by omega)
          obtain rfl : i = n := by omega
          have HRS : Hid (docR (fwdB g) hd l l [] us = (0, m)) := hideIt (by rw [HAP.out, List.drop_of_length_le (by rw [HN.out]; exact Nat.le_refl _)]; rfl)
          have u0 := cellAt (i := 0) HAM.out.c9 rfl
          have u1 := cellAt (i := 1) HAM.out.c9 rfl
          have t0 := cellAt (i := 0) HAM.out.c3 rfl
          have t1 := cellAt (i := 1) HAM.out.c3 rfl
          have q0 := cellAt (i := 0) HAM.out.c6 rfl
          have q1 := cellAt (i := 1) HAM.out.c6 rfl
          have z0 := frz HAM.out.c6 0
          have z1 := frz HAM.out.c6 1
          by_cases hbig : 256 < ml
          · have d3 : decide ((256 : Int) < (ml : Int)) = true := decide_eq_true (by omega)
            have HQ : Hid (docP (fwdB g) hd l us = (3, l)) := hideIt (by rw [HP3.out, HRS.out]; simp only; rw [if_neg (by simp), if_pos (by rw [HML.out]; exact hbig)])
            go_wp2
            (try simp only [Exit.inBlock, Exit.then])
            refine bodyPost_ret (v := .tuple #[.agg #[.string hd, .slice sa ll sc], .int .i64 3]) ?_ rfl (doc_end HQ.out HAM.out.bel (HR0.out _ HAM.out.bel) (HA0.out _ (by omega)))
            rw [results_c2 rfl]
            go_simp
          · have d3 : decide ((256 : Int) < (ml : Int)) = false := decide_eq_false (by omega)
            have HQ : Hid (docP (fwdB g) hd l us = (0, m)) := hideIt (by rw [HP3.out, HRS.out]; simp only; rw [if_neg (by simp), if_neg (by rw [HML.out]; exact hbig)])
            go_wp2
            (try simp only [Exit.inBlock, Exit.then])
            refine bodyPost_ret (v := .tuple #[.agg #[.string hd, .slice ma ml mc], .int .i64 0]) ?_ rfl (doc_end HQ.out HAM.out.bel HAM.out.rm HAM.out.n6)
            rw [results_c2 rfl]
            go_simp
    · have z2 : (z == 0) = false := by simpa using h0
      have HQ : Hid (docP (fwdB g) hd l us = (z, l)) := hideIt (by rw [hp2, if_pos h0])
      clear hp2
      go_wp2_with (first
        | (go_at_call 14; rw [HW.out]; refine (HCK.out _ (Below.refl _ _)).mono ?_; rintro e w1 ⟨rfl, hb1⟩; have B1 := hideIt hb1; have hx1 := HF.out _ hb1; have y0 := cellAt (i := 0) hx1.1 rfl; have y1 := cellAt (i := 1) hx1.1 rfl; have q0 := cellAt (i := 0) hx1.2 rfl; have q1 := cellAt (i := 1) hx1.2 rfl; have z0 := frz hx1.2 0; have z1 := frz hx1.2 1; clear hx1 hb1))
      (try simp only [Exit.inBlock, Exit.then])
      refine bodyPost_ret (v := .tuple #[.agg #[.string hd, .slice sa ll sc], .int .i64 z]) ?_ rfl (doc_end HQ.out (below_step HB.out (Nat.le_refl _) B1.out) (HR0.out _ (below_step HB.out (Nat.le_refl _) B1.out)) (HA0.out _ (by omega)))
      rw [results_c2 rfl]
      go_simp
end Go.Proofs.Ytecdjejemohkgaa.Rf
namespace Go.Proofs.Ytecdjejemohkgaa.Rf
open Cb Go.RowKit Go.Shelf
theorem infoUr : (Try.prog.info? 35).map (fun i => (i.zero, i.size, i.bytes)) = some (some (.agg #[.string ⟨#[]⟩, .string ⟨#[]⟩, .string ⟨#[]⟩, .bool false]), 4, 56) := by kernel_rfl
theorem infoWy : (Try.prog.info? 37).map (fun i => (i.zero, i.size, i.bytes)) = some (some (.agg #[.string ⟨#[]⟩, .string ⟨#[]⟩]), 2, 32) := by kernel_rfl
/-- A new row of one update, of a type. -/
def Pd (t : TypeId) (x : Up) (X : World) (g : Nat) : Prop := X.heap[g]? = some (.cells #[.string x.nm, .string x.old, .string x.new, .bool x.force] t (0, 0))
theorem Pd.cell {t : TypeId} {x : Up} {X : World} {g : Nat} (h : Pd t x X g) (j : Nat) (u : Value) (hj : (upV x)[j]? = some u) : X.cell? ((⟨g, 0, none⟩ : Addr).add j) = some u := by
  rw [Addr.add_lit, Nat.zero_add]
  match j, hj with
  | 0, hj => exact cellAt h (by simpa [upV] using hj)
  | 1, hj => exact cellAt h (by simpa [upV] using hj)
  | 2, hj => exact cellAt h (by simpa [upV] using hj)
  | 3, hj => exact cellAt h (by simpa [upV] using hj)
  | j + 4, hj => simp [upV] at hj
theorem Pd.new (t : TypeId) (x : Up) (X : World) : Pd t x (X.alloc (.cells #[.string x.nm, .string x.old, .string x.new, .bool x.force] t)) X.heap.size := alloc_at rfl
theorem Pd.alloc {t : TypeId} {x : Up} {X : World} {g : Nat} (h : Pd t x X g) (o : Obj) : Pd t x (X.alloc o) g := by
  unfold Pd at h ⊢
  rw [Below.heap_alloc _ _ _ (block_lt h)]
  exact h
theorem other_type {k : Nat} {w : World} {B n : Nat} {t t' : TypeId} {v : Value} {xs : List Value} {g : Nat} {cs : Array Value} {fr : Nat × Nat} (hv : w.ownsRow B t k v n xs) (hg : w.heap[g]? = some (.cells cs t' fr)) (ht : t' ≠ t) : some g ≠ v.ownBlock := by
  intro e
  obtain ⟨cur, hc⟩ := own_type hv e.symm
  rw [hg] at hc
  simp only [Option.some.injEq, Obj.cells.injEq] at hc
  exact ht hc.2.1
theorem Pd.grown {t t' : TypeId} {x : Up} {X Y : World} {g B n : Nat} {v : Value} {xs : List Value} (h : Pd t x X g) (hv : X.ownsRow B t' 4 v n xs) (hg : X.grownBy Y v.ownBlock) (ht : t ≠ t') : Pd t x Y g := by
  unfold Pd at h ⊢
  rw [hg.block g (block_lt h) (other_type hv h ht)]
  exact h
theorem own_grown2 {t t' : TypeId} {X Y : World} {B n B' n' : Nat} {v v' : Value} {xs xs' : List Value} (h : X.ownsRow B t 4 v n xs) (hv : X.ownsRow B' t' 4 v' n' xs') (hg : X.grownBy Y v'.ownBlock) (ht : t ≠ t') : Y.ownsRow B t 4 v n xs :=
  own_grown h hg (fun g e1 e2 => by
    obtain ⟨cur, hc⟩ := own_type h e1
    exact other_type hv hc ht e2.symm)
theorem bel_al {B : Nat} {w X : World} (h : Below B w X) (hB : B ≤ X.heap.size) (o : Obj) : Below B w (X.alloc o) := h.alloc hB o
theorem bel_grown {w X Y : World} {B n : Nat} {t : TypeId} {v : Value} {xs : List Value} (hb : Below B w X) (hB : B ≤ X.heap.size) (hv : X.ownsRow B t 4 v n xs) (hg : X.grownBy Y v.ownBlock) : Below B w Y := hb.grown hg hB (row_ge hv)
theorem own_al {k : Nat} {w : World} {B n : Nat} {t : TypeId} {v : Value} {xs : List Value} (h : w.ownsRow B t k v n xs) (o : Obj) : (w.alloc o).ownsRow B t k v n xs := own_below h (new_below w o)
theorem step_up {ops : Array Oper} {o : Oper} {a : Act} {X : World} {K : Act → World → Prop} {Q : Exit → Act → World → Prop} {E : Prop}
    (hg : o.guard = none) (s x : Operand) (t : TypeId) (hop : o.op = Op.call { callee := Callee.builtin Builtin.append, args := #[s, x], argTypes := #[t, t] })
    (base : Nat) (e : TypeId) (i : TypeInfo) (h1 : Try.prog.underlying t = some (.slice e)) (h2 : Try.prog.info? e = some i) (h3 : i.zero = some (.agg #[.string ⟨#[]⟩, .string ⟨#[]⟩, .string ⟨#[]⟩, .bool false])) (h4 : i.size = 4) (h5 : i.bytes = 56)
    (v : Value) (n : Nat) (xs : List Value) (hs : a.eval s = v) (hown : X.ownsRow base e 4 v n xs) (u : Up)
    (g : Nat) (hP : Pd e u X g) (hx : a.eval x = .slice (some ⟨g, 0, none⟩) 1 1) (hn : n ≤ 1000) (hbase : base ≤ X.heap.size)
    (hK : ∀ v' Y, Y.ownsRow base e 4 v' (n + 1) (xs ++ upV u) → X.grownBy Y v.ownBlock → K (a.put o.dst v') Y) :
    if Region.wanted o (yielded ops a.tmps) = true then Oper.wp Try.prog o a X K Q else E :=
  step_append_own hg s x t hop base e i (.agg #[.string ⟨#[]⟩, .string ⟨#[]⟩, .string ⟨#[]⟩, .bool false]) 4 56 h1 h2 h3 h4 h5 rfl (by decide) v n xs hs hown ⟨g, 0, none⟩ 1 1 (upV u) hx rfl (fun j y hj => hP.cell j y hj) (fun y hy => upsV_one [u] y (by simpa [upsV] using hy)) (by unfold maxLen; omega) (by omega) hbase hK
/-- Both rows, with one update more. -/
def Fin2 (w : World) (n : Nat) (xs : List Value) (u : Up) (v1 v2 : Value) (Y : World) : Prop := Y.ownsRow w.heap.size 34 4 v1 (n + 1) (xs ++ upV u) ∧ Y.ownsRow w.heap.size 35 4 v2 (n + 1) (xs ++ upV u) ∧ Below w.heap.size w Y
theorem ups_snoc {l : List Up} {i : Nat} {x : Up} (h : l[i]? = some x) : upsV (l.take (i + 1)) = upsV (l.take i) ++ upV x := by
  rw [List.take_add_one, h]
  simp [upsV]
theorem rfs_snoc {l : List Rf} {i : Nat} {x : Rf} (h : l[i]? = some x) : rfsV (l.take (i + 1)) = rfsV (l.take i) ++ rfV x := by
  rw [List.take_add_one, h]
  simp [rfsV]
theorem rrow_slice {w : World} {v : Value} {l : List Rf} (h : RRow w v l) : ∃ a c, v = .slice a l.length c := by
  obtain ⟨_, a, c, e, _⟩ := h
  exact ⟨a, c, e⟩
theorem urow_form {w : World} {B n k : Nat} {t : TypeId} {v : Value} {xs : List Value} (h : w.ownsRow B t k v (n + 1) xs) : ∃ g c, v = .slice (some ⟨g, 0, none⟩) (n + 1) c := by
  rcases h.2 with ⟨_, e⟩ | ⟨g, cap, cur, e, _⟩
  · omega
  · exact ⟨g, cap, e⟩
theorem own_form {w : World} {B n k : Nat} {t : TypeId} {v : Value} {xs : List Value} (h : w.ownsRow B t k v n xs) : ∃ a c, v = .slice a n c := by
  obtain ⟨_, a, c, e, _⟩ := VRow.of_row h
  exact ⟨a, c, e⟩
/-- The row of ways in its box. -/
structure WM (wl : World) (n : Nat) (xs : List Value) (v : Value) (X : World) : Prop where
  bel : Below wl.heap.size wl X
  box : X.heap[wl.heap.size + 1]? = some (.cells #[v] 36 (0, 0))
  row : X.ownsRow wl.heap.size 37 2 v n xs
theorem WM.below {wl : World} {n : Nat} {xs : List Value} {v : Value} {X Y : World} (h : WM wl n xs v X) (hb : Below X.heap.size X Y) : WM wl n xs v Y :=
  ⟨below_step h.bel (Nat.le_refl _) hb, (hb.block _ (block_lt h.box)).trans h.box, own_below h.row hb⟩
theorem WM.append {wl : World} {n : Nat} {xs ys : List Value} {v v' : Value} {X Y : World} (h : WM wl n xs v X) (hg : X.grownBy Y v.ownBlock) (hr : Y.ownsRow wl.heap.size 37 2 v' (n + 1) ys) :
    (Y.cell? ⟨wl.heap.size + 1, 0, none⟩ = some v ∧ Y.frozen? ⟨wl.heap.size + 1, 0, none⟩ = false) ∧ WM wl (n + 1) ys v' (Y.setCell ⟨wl.heap.size + 1, 0, none⟩ v') := by
  have ne : some (wl.heap.size + 1) ≠ v.ownBlock := other_type h.row h.box (by decide)
  have c : Y.heap[wl.heap.size + 1]? = some (.cells #[v] 36 (0, 0)) := (hg.block _ (block_lt h.box) ne).trans h.box
  have ne2 : v'.ownBlock ≠ some (wl.heap.size + 1) := fun e => other_type hr c (by decide) e.symm
  refine ⟨⟨cellAt c rfl, frz c 0⟩, (h.bel.grown hg h.bel.size (row_ge h.row)).setCell (p := ⟨wl.heap.size + 1, 0, none⟩) (by show wl.heap.size ≤ wl.heap.size + 1; omega) _, ?_, own_set_ne hr _ ne2 _⟩
  rw [heap_setCell_same Y (wl.heap.size + 1) 0 _ 36 _ c]
  rfl
theorem rf_oneY (x : Rf) (X : World) (g : Nat) (hX : X.heap[g]? = some (.cells #[.string x.nm, .string x.id] 37 (0, 0))) (j : Nat) (u : Value) (h : (rfV x)[j]? = some u) : X.cell? ((⟨g, 0, none⟩ : Addr).add j) = some u := by
  rw [Addr.add_lit, Nat.zero_add]
  match j, h with
  | 0, h => exact cellAt hX (by simpa [rfV] using h)
  | 1, h => exact cellAt hX (by simpa [rfV] using h)
  | j + 2, h => simp [rfV] at h
theorem appP_len (f : ByteArray → ByteArray → Bool) (hd : ByteArray) (l : List Rf) (us : List Up) (h : l.length ≤ 260) : (appP f hd l us).2.length ≤ 260 := by
  rw [appP]
  split
  · exact h
  · split
    · exact h
    · split
      · exact h
      · split
        · exact h
        · simp only; omega
theorem fwd_ways (X : World) (g : Nat) (v : Value) (ws : List Rf) (h : RRow X v ws) (hl : ws.length ≤ 100000) (hc : X.cell? ⟨g, 0, none⟩ = some v) (hg : g < X.heap.size) : Fwd X 9 #[.pointer (some ⟨g, 0, none⟩)] (fwdB ws) :=
  ⟨enters_of Try.func9 (by kernel_rfl) rfl, fun W a b hb => closure_any v ws a b g W (h.below hb) hl (by rw [hb.cell (p := ⟨g, 0, none⟩) hg]; exact hc)⟩
theorem last_at {wr w8 w9 : World} {a16 : Option Addr} {c16 nR : Nat} {hd : ByteArray} {v14 : Value} {R : List Rf} {g14 : Nat} {P7 P8 : Option Obj} {b7 b8 : Nat} {v7 v8 : Value} {L : List Rf} {w : World} {o14 : Obj}
    (h8 : Below wr.heap.size wr w8) (r14 : RRow w8 v14 R) (c14 : w8.heap[g14]? = some o14) (r16 : RRow w9 (.slice a16 nR c16) R) (h9 : Below w8.heap.size w8 w9)
    (hX : ∀ X, Below wr.heap.size wr X → X.heap[b7]? = P7 ∧ X.heap[b8]? = P8 ∧ RRow X v7 L ∧ RRow X v8 L ∧ Below w.heap.size w X) :
    ∀ X, Below (w9.alloc (.cells #[.string hd, .slice a16 nR c16] 30)).heap.size (w9.alloc (.cells #[.string hd, .slice a16 nR c16] 30)) X → X.heap[g14]? = some o14 ∧ X.heap[w9.heap.size]? = some (.cells #[.string hd, .slice a16 nR c16] 30 (0, 0)) ∧ RRow X v14 R ∧ RRow X (.slice a16 nR c16) R ∧ X.heap[b7]? = P7 ∧ X.heap[b8]? = P8 ∧ RRow X v7 L ∧ RRow X v8 L ∧ Below w.heap.size w X := fun X hb => by
  have b9 : Below w9.heap.size w9 X := below_step (new_below w9 _) (Nat.le_refl _) hb
  have b8' : Below w8.heap.size w8 X := below_step h9 (Nat.le_refl _) b9
  obtain ⟨q1, q2, q3, q4, q5⟩ := hX X (below_step h8 (Nat.le_refl _) b8')
  exact ⟨(b8'.block _ (block_lt c14)).trans c14, (hb.block _ (by simp)).trans (alloc_at rfl), r14.below b8', r16.below b9, q1, q2, q3, q4, q5⟩
end Go.Proofs.Ytecdjejemohkgaa.Rf
namespace Go.Proofs.Ytecdjejemohkgaa.Rf
open Cb Go.RowKit Go.Shelf
set_option maxHeartbeats 6400000 in
set_option maxRecDepth 100000 in
theorem apply_law (hd : ByteArray) (v : Value) (l : List Rf) (vu : Value) (us : List Up) (vw : Value) (ws : List Rf) (w : World) (h : RRow w v l) (hu : URow w vu us) (hw : RRow w vw ws)
    (hz : hd.size ≤ 281474976710656) (hzs : ∀ (i : Nat) (x : Rf), l[i]? = some x → x.nm.size ≤ 281474976710656 ∧ x.id.size ≤ 281474976710656) (hzu : ∀ (i : Nat) (x : Up), us[i]? = some x → x.nm.size ≤ 9223372036854775807)
    (haw : ∀ X, Calls Try.prog 12 #[] X fun e w' => e = .returned (.bool true) ∧ Below X.heap.size X w') :
    Calls Try.prog 3 #[.agg #[.string hd, v], vu, vw] w fun e w' => e = .returned (.bool true) ∧ Below w.heap.size w w' := by
  have HAW := hideIt haw
  have HZ := hideIt hz
  have HZS : Hid (∀ (i : Nat) (x : Rf), (l.take 260)[i]? = some x → x.nm.size ≤ 281474976710656 ∧ x.id.size ≤ 281474976710656) := hideIt (fun i x hx => by
    obtain ⟨j, hj⟩ := List.getElem?_of_mem (List.mem_of_mem_take (List.mem_of_getElem? hx))
    exact hzs j x hj)
  have HZU : Hid (∀ (i : Nat) (x : Up), (us.take 30)[i]? = some x → x.nm.size ≤ 9223372036854775807) := hideIt (fun i x hx => by
    obtain ⟨j, hj⟩ := List.getElem?_of_mem (List.mem_of_mem_take (List.mem_of_getElem? hx))
    exact hzu j x hj)
  obtain ⟨i0, hi0, hz0, hz1, hz2⟩ := info_parts infoUp
  obtain ⟨k0, hk0, hy0, hy1, hy2⟩ := info_parts infoUr
  obtain ⟨W, hW⟩ : ∃ W, w.alloc (.cells #[.string hd, v] 24) = W := ⟨_, rfl⟩
  have hb : Below w.heap.size w W := by rw [← hW]; exact (Below.refl _ w).alloc (Nat.le_refl _) _
  have hx : W.heap[w.heap.size]? = some (.cells #[.string hd, v] 24 (0, 0)) := by rw [← hW]; exact alloc_at rfl
  have x0 := cellAt (i := 0) hx rfl
  have x1 := cellAt (i := 1) hx rfl
  have HCUT := hideIt (cut_any hd v l W (h.below hb))
  obtain ⟨L, hL⟩ : ∃ L, l.take 260 = L := ⟨_, rfl⟩
  have hLn : L.length ≤ 260 := by rw [← hL, List.length_take]; omega
  rw [hL] at HCUT HZS
  obtain ⟨nL, hnL⟩ : ∃ n, L.length = n := ⟨_, rfl⟩
  have HNL := hideIt hnL
  rw [hnL] at hLn
  have HLN := hideIt hLn
  have HB := hideIt hb
  have HW := hideIt hW
  obtain ⟨n, hn⟩ : ∃ n, us.length = n := ⟨_, rfl⟩
  have HN := hideIt hn
  obtain ⟨n2, hn2⟩ : ∃ n, ws.length = n := ⟨_, rfl⟩
  have HN2 := hideIt hn2
  have HUR : Hid (∀ i u, us[i]? = some u → ∃ b o c, vu = .slice (some ⟨b, o, none⟩) n c ∧ ∀ w', Below w.heap.size w w' → w'.cell? ⟨b, o + i * 4, none⟩ = some (.string u.nm) ∧ w'.cell? ⟨b, o + i * 4 + 1, none⟩ = some (.string u.old) ∧ w'.cell? ⟨b, o + i * 4 + 2, none⟩ = some (.string u.new) ∧ w'.cell? ⟨b, o + i * 4 + 3, none⟩ = some (.bool u.force)) := hideIt (fun i u hi => by
    have hil := (List.getElem?_eq_some_iff.1 hi).1
    obtain ⟨b, o, c, e, _, _, h3⟩ := hu.cells (by omega)
    rw [hn] at e
    exact ⟨b, o, c, e, fun w' hb' => h3 i u hi w' hb'⟩)
  have HWR : Hid (∀ i x, ws[i]? = some x → ∃ b o c, vw = .slice (some ⟨b, o, none⟩) n2 c ∧ ∀ w', Below w.heap.size w w' → w'.cell? ⟨b, o + i * 2, none⟩ = some (.string x.nm) ∧ w'.cell? ⟨b, o + i * 2 + 1, none⟩ = some (.string x.id)) := hideIt (fun i x hi => by
    have hil := (List.getElem?_eq_some_iff.1 hi).1
    obtain ⟨b, o, c, e, _, _, h3⟩ := hw.cells (by omega)
    rw [hn2] at e
    exact ⟨b, o, c, e, fun w' hb' => h3 i x hi w' hb'⟩)
  obtain ⟨_, ua, uc, hvu, hunc, ⟨hucm, _⟩, _⟩ := hu
  subst hvu
  obtain ⟨_, wa, wc, hvw, hwnc, ⟨hwcm, _⟩, _⟩ := hw
  subst hvw
  obtain ⟨_, sa, sc, hvs, _, _, _⟩ := h
  subst hvs
  generalize l.length = l0 at *
  rw [hn] at hunc HUR ⊢
  rw [hn2] at hwnc HWR ⊢
  have nI : (n : Int) ≤ 9223372036854775807 := by unfold maxLen at hucm; omega
  have nI2 : (n2 : Int) ≤ 9223372036854775807 := by unfold maxLen at hwcm; omega
  clear hW hb hx haw hz hzs hzu hL hnL hn hn2 hLn hunc hucm hwnc hwcm
  go_enter Try.func3, Try.ntmps3
  go_wp2_with (first
    | (go_at_call 6; rw [HW.out]; refine HCUT.out.mono ?_; rintro e w1 ⟨v7, rfl, hr1, hb1⟩; obtain ⟨a7, c7, hv⟩ := rrow_slice hr1; rw [HNL.out] at hv; subst hv; have B1 := hideIt (below_step HB.out (Nat.le_refl _) hb1); have R1 := hideIt hr1; have hx7 := (alloc_at (w := w1) (o := .cells #[.string hd, .slice a7 nL c7] 24) rfl); have y0 := cellAt (i := 0) hx7 rfl; have y1 := cellAt (i := 1) hx7 rfl; clear hr1 hb1 hx7)
    | (go_at_call 7; refine (ref_of hd (.slice a7 nL c7) L _ (R1.out.below (new_below w1 _)) (by rw [HNL.out]; have := HLN.out; omega)).mono ?_; rintro e w2 ⟨v8, rfl, hr2, hb2⟩; obtain ⟨a8, c8, hv⟩ := rrow_slice hr2; rw [HNL.out] at hv; subst hv; have B2 := hideIt hb2; have R2 := hideIt hr2; clear hr2 hb2))
  obtain ⟨wb, hwb⟩ : ∃ x, w2.alloc (.cells #[.string hd, .slice a8 nL c8] 30) = x := ⟨_, rfl⟩
  have HB7 : Hid (∀ X, Below wb.heap.size wb X → X.heap[w1.heap.size]? = some (.cells #[.string hd, .slice a7 nL c7] 24 (0, 0)) ∧ X.heap[w2.heap.size]? = some (.cells #[.string hd, .slice a8 nL c8] 30 (0, 0)) ∧ RRow X (.slice a7 nL c7) L ∧ RRow X (.slice a8 nL c8) L ∧ Below w.heap.size w X) := hideIt (fun X hX => by
    have hn := new_below w2 (.cells #[.string hd, .slice a8 nL c8] 30)
    rw [hwb] at hn
    have s2 : wb.heap.size = w2.heap.size + 1 := by rw [← hwb]; simp
    have b2X := below_step hn (Nat.le_refl _) hX
    have b1X := below_step B2.out (Nat.le_refl _) b2X
    have s1 := B2.out.size
    have e1 : (w1.alloc (.cells #[.string hd, .slice a7 nL c7] 24)).heap.size = w1.heap.size + 1 := by simp
    refine ⟨(b1X.block _ (by omega)).trans (alloc_at rfl), ?_, (R1.out.below (new_below w1 _)).below b1X, R2.out.below b2X, below_step B1.out (Nat.le_refl _) (below_step (new_below w1 _) (by simp) b1X)⟩
    rw [hX.block _ (by omega), ← hwb]
    exact alloc_at rfl)
  (try rw [hwb])
  obtain ⟨b7, hb7⟩ : ∃ b, w1.heap.size = b := ⟨_, rfl⟩
  obtain ⟨b8, hb8⟩ : ∃ b, w2.heap.size = b := ⟨_, rfl⟩
  rw [hb7, hb8] at HB7
  have HSB : Hid (wb.heap.size = b8 + 1) := hideIt (by rw [← hwb, ← hb8]; simp)
  (try rw [hb7])
  (try rw [hb8])
  clear hb7 hb8 y0 y1 x0 x1 hwb
  have HE1 : Hid (((wb.alloc (.cells #[] 34)).alloc (.cells #[] 35)).ownsRow wb.heap.size 34 4 (.slice (some ⟨wb.heap.size, 0, none⟩) 0 0) 0 []) := hideIt (own_al (new_empty wb.heap.size 4 wb 34 (Nat.le_refl _)) _)
  have HE2 : Hid (((wb.alloc (.cells #[] 34)).alloc (.cells #[] 35)).ownsRow wb.heap.size 35 4 (.slice (some ⟨wb.heap.size + 1, 0, none⟩) 0 0) 0 []) := hideIt (by
    have := new_empty wb.heap.size 4 (wb.alloc (.cells #[] 34)) 35 (by simp)
    simpa using this)
  have HEB : Hid (Below wb.heap.size wb ((wb.alloc (.cells #[] 34)).alloc (.cells #[] 35))) := hideIt (((Below.refl _ wb).alloc (Nat.le_refl _) _).alloc (by simp) _)
  go_wp2
  go_loopw [9, 10, 11] (fun tv tm ti wr => ∃ i : Nat, i ≤ n ∧ i ≤ 30 ∧ ti = .int .i64 (i : Int) ∧ wr.ownsRow wb.heap.size 34 4 tv i (upsV (us.take i)) ∧ wr.ownsRow wb.heap.size 35 4 tm i (upsV (us.take i)) ∧ Below wb.heap.size wb wr) (fun _ _ ti _ => 30 - (intOf ti).toNat)
  case atStart => exact ⟨0, by omega, by omega, rfl, by (try rw [← HSB.out]); exact HE1.out, by (try rw [← HSB.out]); exact HE2.out, HEB.out⟩
  case round =>
    obtain ⟨i, hi, hi20, rfl, hr1, hr2, hb⟩ := hrel
    have HB := hideIt hb
    have hws : wb.heap.size ≤ wr.heap.size := hb.size
    have i20 : (i : Int) ≤ 30 := by omega
    have i0' : (0 : Int) ≤ (i : Int) := by omega
    by_cases hlt : i < n ∧ i < 30
    · obtain ⟨hl1, hl2⟩ := hlt
      have q1 : (i : Int) < (n : Int) := by omega
      have q2 : decide ((i : Int) < (n : Int)) = true := decide_eq_true q1
      have q3 : (i : Int) < 30 := by omega
      have q4 : decide ((i : Int) < 30) = true := decide_eq_true q3
      obtain ⟨⟨un, uo, uw, uf⟩, hxi⟩ : ∃ x, us[i]? = some x := ⟨us[i]'(by rw [HN.out]; exact hl1), by simp⟩
      obtain ⟨b, o, c, e, hcc⟩ := HUR.out i _ hxi
      cases e
      have HCL : Hid (∀ X, Below wb.heap.size wb X → X.cell? ⟨b, o + i * 4, none⟩ = some (.string un) ∧ X.cell? ⟨b, o + i * 4 + 1, none⟩ = some (.string uo) ∧ X.cell? ⟨b, o + i * 4 + 2, none⟩ = some (.string uw) ∧ X.cell? ⟨b, o + i * 4 + 3, none⟩ = some (.bool uf) ∧ Below wb.heap.size wb X) := hideIt (fun X hX => by
        obtain ⟨h1, h2, h3, h4⟩ := hcc X (HB7.out X hX).2.2.2.2
        exact ⟨h1, h2, h3, h4, hX⟩)
      have HPQ : Hid (upsV (us.take (i + 1)) = upsV (us.take i) ++ upV (Up.mk un uo uw uf)) := hideIt (ups_snoc hxi)
      have HBB : Hid (Below wb.heap.size wb wr.drew) := hideIt (hb.trans ⟨rfl, rfl, rfl, Nat.le_refl _, fun _ _ => rfl⟩)
      have HO1 : Hid (wr.drew.ownsRow wb.heap.size 34 4 u9 i (upsV (us.take i))) := hideIt (own_below hr1 (drew_below wr))
      have HO2 : Hid (wr.drew.ownsRow wb.heap.size 35 4 u10 i (upsV (us.take i))) := hideIt (own_below hr2 (drew_below wr))
      have hsz : wb.heap.size ≤ wr.drew.heap.size := HBB.out.size
      generalize upsV (us.take i) = xs at HO1 HO2 HPQ
      clear hr1 hr2 hb hcc hxi
      have PA1 : Hid (Pd 34 (Up.mk un uo uw uf) (wr.drew.alloc (.cells #[.string un, .string uo, .string uw, .bool uf] 34)) wr.drew.heap.size) := hideIt (Pd.new 34 (Up.mk un uo uw uf) wr.drew)
      have PB1 : Hid (Pd 35 (Up.mk un uo uw uf) (wr.drew.alloc (.cells #[.string un, .string uo, .string uw, .bool uf] 35)) wr.drew.heap.size) := hideIt (Pd.new 35 (Up.mk un uo uw uf) wr.drew)
      have PA2 : Hid (Pd 34 (Up.mk un uo uw uf) ((wr.drew.alloc (.cells #[.string un, .string uo, .string uw, .bool uf] 34)).alloc (.cells #[.string un, .string uo, .string uw, .bool uf] 35)) wr.drew.heap.size) := hideIt (PA1.out.alloc _)
      have PB2 : Hid (Pd 35 (Up.mk un uo uw uf) ((wr.drew.alloc (.cells #[.string un, .string uo, .string uw, .bool uf] 35)).alloc (.cells #[.string un, .string uo, .string uw, .bool uf] 34)) wr.drew.heap.size) := hideIt (PB1.out.alloc _)
      have PA3 : Hid (Pd 34 (Up.mk un uo uw uf) ((wr.drew.alloc (.cells #[.string un, .string uo, .string uw, .bool uf] 35)).alloc (.cells #[.string un, .string uo, .string uw, .bool uf] 34)) (wr.drew.heap.size + 1)) := hideIt (by simpa using Pd.new 34 (Up.mk un uo uw uf) (wr.drew.alloc (.cells #[.string un, .string uo, .string uw, .bool uf] 35)))
      have PB3 : Hid (Pd 35 (Up.mk un uo uw uf) ((wr.drew.alloc (.cells #[.string un, .string uo, .string uw, .bool uf] 34)).alloc (.cells #[.string un, .string uo, .string uw, .bool uf] 35)) (wr.drew.heap.size + 1)) := hideIt (by simpa using Pd.new 35 (Up.mk un uo uw uf) (wr.drew.alloc (.cells #[.string un, .string uo, .string uw, .bool uf] 34)))
      have ne12 : (34 : TypeId) ≠ 35 := by decide
      have ne21 : (35 : TypeId) ≠ 34 := by decide
      have hi1000 : i ≤ 1000 := by omega
      have hc0 := HCL.out _ HBB.out
      go_wp2
      go_region_held3 (fun X => X.cell? ⟨b, o + i * 4, none⟩ = some (.string un) ∧ X.cell? ⟨b, o + i * 4 + 1, none⟩ = some (.string uo) ∧ X.cell? ⟨b, o + i * 4 + 2, none⟩ = some (.string uw) ∧ X.cell? ⟨b, o + i * 4 + 3, none⟩ = some (.bool uf) ∧ Below wb.heap.size wb X) (first | (exact HCL.out _ HBB.out) | assumption | (exact HCL.out _ FN.out.2.2) | (exact HCL.out _ BA.out) | (exact HCL.out _ BB.out) | (exact HCL.out _ (bel_al (‹_ ∧ _ ∧ _ ∧ _ ∧ Below _ _ _›).2.2.2.2 (‹_ ∧ _ ∧ _ ∧ _ ∧ Below _ _ _›).2.2.2.2.size _)))
        (first
          | (refine step_up (by rfl) (.tmp 41) (.tmp 46) 32 (by rfl) wb.heap.size 35 k0 Try.underlying32 hk0 hy0 hy1 hy2 u10 i xs (by rfl) O2A.out (Up.mk un uo uw uf) _ PBA.out (by rfl) hi1000 BA.out.size ?_; intro vB wB hownB hgB; have FN : Hid (Fin2 wb i xs (Up.mk un uo uw uf) vA vB wB) := hideIt ⟨own_grown2 hownA O2A.out hgB ne12, hownB, bel_grown BA.out BA.out.size O2A.out hgB⟩)
          | (refine step_up (by rfl) (.tmp 41) (.tmp 46) 32 (by rfl) wb.heap.size 35 k0 Try.underlying32 hk0 hy0 hy1 hy2 u10 i xs (by rfl) (own_al O2A.out _) (Up.mk un uo uw uf) _ (Pd.new 35 (Up.mk un uo uw uf) wA) (by rfl) hi1000 (bel_al BA.out BA.out.size _).size ?_; intro vB wB hownB hgB; have FN : Hid (Fin2 wb i xs (Up.mk un uo uw uf) vA vB wB) := hideIt ⟨own_grown2 (own_al hownA _) (own_al O2A.out _) hgB ne12, hownB, bel_grown (bel_al BA.out BA.out.size _) (bel_al BA.out BA.out.size _).size (own_al O2A.out _) hgB⟩)
          | (refine step_up (by rfl) (.tmp 34) (.tmp 39) 25 (by rfl) wb.heap.size 34 i0 Try.underlying25 hi0 hz0 hz1 hz2 u9 i xs (by rfl) O1B.out (Up.mk un uo uw uf) _ PAB.out (by rfl) hi1000 BB.out.size ?_; intro vA wA hownA hgA; have FN : Hid (Fin2 wb i xs (Up.mk un uo uw uf) vA vB wA) := hideIt ⟨hownA, own_grown2 hownB O1B.out hgA ne21, bel_grown BB.out BB.out.size O1B.out hgA⟩)
          | (refine step_up (by rfl) (.tmp 34) (.tmp 39) 25 (by rfl) wb.heap.size 34 i0 Try.underlying25 hi0 hz0 hz1 hz2 u9 i xs (by rfl) (own_al O1B.out _) (Up.mk un uo uw uf) _ (Pd.new 34 (Up.mk un uo uw uf) wB) (by rfl) hi1000 (bel_al BB.out BB.out.size _).size ?_; intro vA wA hownA hgA; have FN : Hid (Fin2 wb i xs (Up.mk un uo uw uf) vA vB wA) := hideIt ⟨hownA, own_grown2 (own_al hownB _) (own_al O1B.out _) hgA ne21, bel_grown (bel_al BB.out BB.out.size _) (bel_al BB.out BB.out.size _).size (own_al O1B.out _) hgA⟩)
          | (refine step_up (by rfl) (.tmp 34) (.tmp 39) 25 (by rfl) wb.heap.size 34 i0 Try.underlying25 hi0 hz0 hz1 hz2 u9 i xs (by rfl) (own_al HO1.out _) (Up.mk un uo uw uf) _ PA1.out (by rfl) hi1000 (bel_al HBB.out hsz _).size ?_; intro vA wA hownA hgA; have O2A := hideIt (own_grown2 (own_al HO2.out _) (own_al HO1.out _) hgA ne21); have BA := hideIt (bel_grown (bel_al HBB.out hsz _) (bel_al HBB.out hsz _).size (own_al HO1.out _) hgA))
          | (refine step_up (by rfl) (.tmp 34) (.tmp 39) 25 (by rfl) wb.heap.size 34 i0 Try.underlying25 hi0 hz0 hz1 hz2 u9 i xs (by rfl) (own_al (own_al HO1.out _) _) (Up.mk un uo uw uf) _ PA2.out (by rfl) hi1000 (bel_al (bel_al HBB.out hsz _) (by simp; omega) _).size ?_; intro vA wA hownA hgA; have O2A := hideIt (own_grown2 (own_al (own_al HO2.out _) _) (own_al (own_al HO1.out _) _) hgA ne21); have BA := hideIt (bel_grown (bel_al (bel_al HBB.out hsz _) (by simp; omega) _) (bel_al (bel_al HBB.out hsz _) (by simp; omega) _).size (own_al (own_al HO1.out _) _) hgA); have PBA := hideIt (PB3.out.grown (own_al (own_al HO1.out _) _) hgA ne21))
          | (refine step_up (by rfl) (.tmp 34) (.tmp 39) 25 (by rfl) wb.heap.size 34 i0 Try.underlying25 hi0 hz0 hz1 hz2 u9 i xs (by rfl) (own_al (own_al HO1.out _) _) (Up.mk un uo uw uf) _ PA3.out (by rfl) hi1000 (bel_al (bel_al HBB.out hsz _) (by simp; omega) _).size ?_; intro vA wA hownA hgA; have O2A := hideIt (own_grown2 (own_al (own_al HO2.out _) _) (own_al (own_al HO1.out _) _) hgA ne21); have BA := hideIt (bel_grown (bel_al (bel_al HBB.out hsz _) (by simp; omega) _) (bel_al (bel_al HBB.out hsz _) (by simp; omega) _).size (own_al (own_al HO1.out _) _) hgA); have PBA := hideIt (PB2.out.grown (own_al (own_al HO1.out _) _) hgA ne21))
          | (refine step_up (by rfl) (.tmp 41) (.tmp 46) 32 (by rfl) wb.heap.size 35 k0 Try.underlying32 hk0 hy0 hy1 hy2 u10 i xs (by rfl) (own_al HO2.out _) (Up.mk un uo uw uf) _ PB1.out (by rfl) hi1000 (bel_al HBB.out hsz _).size ?_; intro vB wB hownB hgB; have O1B := hideIt (own_grown2 (own_al HO1.out _) (own_al HO2.out _) hgB ne12); have BB := hideIt (bel_grown (bel_al HBB.out hsz _) (bel_al HBB.out hsz _).size (own_al HO2.out _) hgB))
          | (refine step_up (by rfl) (.tmp 41) (.tmp 46) 32 (by rfl) wb.heap.size 35 k0 Try.underlying32 hk0 hy0 hy1 hy2 u10 i xs (by rfl) (own_al (own_al HO2.out _) _) (Up.mk un uo uw uf) _ PB2.out (by rfl) hi1000 (bel_al (bel_al HBB.out hsz _) (by simp; omega) _).size ?_; intro vB wB hownB hgB; have O1B := hideIt (own_grown2 (own_al (own_al HO1.out _) _) (own_al (own_al HO2.out _) _) hgB ne12); have BB := hideIt (bel_grown (bel_al (bel_al HBB.out hsz _) (by simp; omega) _) (bel_al (bel_al HBB.out hsz _) (by simp; omega) _).size (own_al (own_al HO2.out _) _) hgB); have PAB := hideIt (PA3.out.grown (own_al (own_al HO2.out _) _) hgB ne12))
          | (refine step_up (by rfl) (.tmp 41) (.tmp 46) 32 (by rfl) wb.heap.size 35 k0 Try.underlying32 hk0 hy0 hy1 hy2 u10 i xs (by rfl) (own_al (own_al HO2.out _) _) (Up.mk un uo uw uf) _ PB3.out (by rfl) hi1000 (bel_al (bel_al HBB.out hsz _) (by simp; omega) _).size ?_; intro vB wB hownB hgB; have O1B := hideIt (own_grown2 (own_al (own_al HO1.out _) _) (own_al (own_al HO2.out _) _) hgB ne12); have BB := hideIt (bel_grown (bel_al (bel_al HBB.out hsz _) (by simp; omega) _) (bel_al (bel_al HBB.out hsz _) (by simp; omega) _).size (own_al (own_al HO2.out _) _) hgB); have PAB := hideIt (PA2.out.grown (own_al (own_al HO2.out _) _) hgB ne12)))
      all_goals go_wp2
      all_goals
        go_roundw
        case rel =>
          exact ⟨i + 1, by omega, by omega, by go_num, by rw [HPQ.out]; exact FN.out.1, by rw [HPQ.out]; exact FN.out.2.1, FN.out.2.2⟩
        case measure => simp [intOf]; omega
    · have HU : Hid (us.take i = us.take 30) := hideIt (by
        have : i = n ∨ i = 30 := by omega
        rcases this with rfl | rfl
        · rw [← HN.out, List.take_length, List.take_of_length_le (by rw [HN.out]; omega)]
        · rfl)
      have HUL : Hid ((us.take 30).length = i) := hideIt (by rw [List.length_take, HN.out]; omega)
      rw [HU.out] at hr1 hr2
      obtain ⟨k1, kc, hv1⟩ := own_form hr1
      obtain ⟨m1, mc, hv2⟩ := own_form hr2
      subst hv1 hv2
      have HO1 := hideIt hr1
      have HO2 := hideIt hr2
      clear hr1 hr2 hb HE1 HE2 HEB
      have hc2 : (¬ (i : Int) < (n : Int) ∧ decide ((i : Int) < (n : Int)) = false) ∨ ((i : Int) < (n : Int) ∧ decide ((i : Int) < (n : Int)) = true ∧ ¬ (i : Int) < 30 ∧ decide ((i : Int) < 30) = false) := by
        by_cases g : (i : Int) < (n : Int)
        · exact .inr ⟨g, decide_eq_true g, by omega, decide_eq_false (by omega)⟩
        · exact .inl ⟨g, decide_eq_false g⟩
      clear hlt
      rename World => wl
      have HW0 : Hid (WM wl 0 [] (.slice (some ⟨wl.heap.size, 0, none⟩) 0 0) ((wl.alloc (.cells #[] 37)).alloc (.cells #[.slice (some ⟨wl.heap.size, 0, none⟩) 0 0] 36))) := hideIt ⟨((Below.refl _ wl).alloc (Nat.le_refl _) _).alloc (by simp) _, by simpa using alloc_at (w := wl.alloc (.cells #[] 37)) (o := .cells #[.slice (some ⟨wl.heap.size, 0, none⟩) 0 0] 36) rfl, own_al (new_empty wl.heap.size 2 wl 37 (Nat.le_refl _)) _⟩
      rcases hc2 with ⟨g1, g2⟩ | ⟨g1, g2, g3, g4⟩
      · go_wp2
        (try clear g3 g4)
        (try clear g1 g2)
        go_loopw [13] (fun ti wr => ∃ (j : Nat) (va : Option Addr) (vc : Nat), j ≤ n2 ∧ j ≤ 30 ∧ ti = .int .i64 (j : Int) ∧ WM wl j (rfsV (ws.take j)) (.slice va j vc) wr) (fun ti _ => 30 - (intOf ti).toNat)
        case atStart => exact ⟨0, _, _, by omega, by omega, rfl, HW0.out⟩
        case round =>
          obtain ⟨j, va, vc, hj, hj30, rfl, hm⟩ := hrel
          have HM := hideIt hm
          have j30 : (j : Int) ≤ 30 := by omega
          have j0 : (0 : Int) ≤ (j : Int) := by omega
          have b0 := cellAt (i := 0) hm.box rfl
          clear hm
          by_cases hlt : j < n2 ∧ j < 30
          · obtain ⟨hl1, hl2⟩ := hlt
            have q1 : (j : Int) < (n2 : Int) := by omega
            have q2 : decide ((j : Int) < (n2 : Int)) = true := decide_eq_true q1
            have q3 : (j : Int) < 30 := by omega
            have q4 : decide ((j : Int) < 30) = true := decide_eq_true q3
            obtain ⟨⟨xa, xb⟩, hxi⟩ : ∃ x, ws[j]? = some x := ⟨ws[j]'(by rw [HN2.out]; exact hl1), by simp⟩
            obtain ⟨b, o, c, e, hcc⟩ := HWR.out j _ hxi
            cases e
            have HCC := hideIt hcc
            have HBX : Hid (∀ X, Below wl.heap.size wl X → Below w.heap.size w X) := hideIt (fun X hX => (HB7.out X (below_step HB.out (Nat.le_refl _) hX)).2.2.2.2)
            obtain ⟨c0, c1⟩ := HCC.out wr (HBX.out _ HM.out.bel)
            have HPQ : Hid (rfsV (ws.take (j + 1)) = rfsV (ws.take j) ++ rfV (Rf.mk xa xb)) := hideIt (rfs_snoc hxi)
            have M0 := hideIt (HM.out.below (new_below wr (.cells #[.string xa, .string xb] 37)))
            have M1 : Hid (WM wl j (rfsV (ws.take j)) (.slice va j vc) (wr.alloc (.cells #[.string xa, .string xb] 37)).drew) := hideIt (M0.out.below (drew_below _))
            obtain ⟨d0, d1⟩ := HCC.out _ (HBX.out _ M1.out.bel)
            obtain ⟨e0, e1⟩ := HCC.out _ (HBX.out _ M0.out.bel)
            have b1 := cellAt (i := 0) M1.out.box rfl
            have b2 := cellAt (i := 0) M0.out.box rfl
            obtain ⟨r0, hr0, hs0, hs1, hs2⟩ := info_parts infoWy
            generalize rfsV (ws.take j) = xs at HM M0 M1 HPQ
            clear hcc hxi
            go_wp2
            go_region_law (first
              | (refine Cb.step_append_own (by rfl) _ _ 36 (by rfl) wl.heap.size 37 r0 (.agg #[.string ⟨#[]⟩, .string ⟨#[]⟩]) 2 32 Try.underlying36 hr0 hs0 hs1 hs2 rfl (by decide) _ j _ (by rfl) M1.out.row ⟨wr.heap.size, 0, none⟩ 1 1 (rfV (Rf.mk xa xb)) (by rfl) rfl (rf_oneY (Rf.mk xa xb) _ _ (alloc_at (w := wr) rfl)) (fun u hu => rfsV_one [Rf.mk xa xb] u (by simpa [rfsV] using hu)) (by unfold maxLen; omega) (by omega) M1.out.bel.size ?_; intro v3 w7 hown7 hg7; obtain ⟨g7, cp7, rfl⟩ := urow_form hown7; have A7 := hideIt (M1.out.append hg7 hown7); have x1 := A7.out.1.1; have y1 := A7.out.1.2; clear hown7 hg7))
            all_goals go_wp2
            all_goals go_roundw
            all_goals first
              | exact ⟨j + 1, _, _, by omega, by omega, by go_num, by rw [HPQ.out]; exact A7.out.2⟩
              | (simp [intOf]; omega)
          · have HG : Hid (ws.take j = ws.take 30) := hideIt (by
              have : j = n2 ∨ j = 30 := by omega
              rcases this with rfl | rfl
              · rw [← HN2.out, List.take_length, List.take_of_length_le (by rw [HN2.out]; omega)]
              · rfl)
            have HGL : Hid ((ws.take 30).length = j) := hideIt (by rw [List.length_take, HN2.out]; omega)
            rw [HG.out] at HM
            have HBR : Hid (∀ X, Below wr.heap.size wr X → Below wb.heap.size wb X) := hideIt (fun X hX => below_step HB.out (Nat.le_refl _) (below_step HM.out.bel (Nat.le_refl _) hX))
            have HU1 : Hid (URow wr (.slice k1 i kc) (us.take 30)) := hideIt (by
              show VRow 4 wr _ (us.take 30).length _
              rw [HUL.out]
              exact VRow.of_row (own_below HO1.out HM.out.bel))
            have HU2 : Hid (URow wr (.slice m1 i mc) (us.take 30)) := hideIt (by
              show VRow 4 wr _ (us.take 30).length _
              rw [HUL.out]
              exact VRow.of_row (own_below HO2.out HM.out.bel))
            have HWY : Hid (RRow wr (.slice va j vc) (ws.take 30)) := hideIt (by
              show VRow 2 wr _ (ws.take 30).length _
              rw [HGL.out]
              exact VRow.of_row HM.out.row)
            obtain ⟨p7, p8, r7, r8, bw⟩ := HB7.out wr (HBR.out _ (Below.refl _ _))
            have hLL : L.length ≤ 260 := by rw [HNL.out]; exact HLN.out
            obtain ⟨ER, hER⟩ : ∃ ER, appP (fwdB (ws.take 30)) hd L (us.take 30) = ER := ⟨_, rfl⟩
            have hRl := appP_len (fwdB (ws.take 30)) hd L (us.take 30) hLL
            rw [hER] at hRl
            obtain ⟨E, R⟩ := ER
            simp only at hRl
            obtain ⟨nR, hnR⟩ : ∃ k, R.length = k := ⟨_, rfl⟩
            have HAP : Hid (Calls Try.prog 8 #[.agg #[.string hd, .slice a7 nL c7], .slice k1 i kc, .func (.func 9) #[] #[.pointer (some ⟨wl.heap.size + 1, 0, none⟩)]] wr fun e w' => ∃ a c, e = .returned (.tuple #[.agg #[.string hd, .slice a nR c], .int .i64 E]) ∧ RRow w' (.slice a nR c) R ∧ Below wr.heap.size wr w') := hideIt (by
              refine (apply_any hd (.slice a7 nL c7) L (.slice k1 i kc) (us.take 30) 9 #[.pointer (some ⟨wl.heap.size + 1, 0, none⟩)] (fwdB (ws.take 30)) wr r7 (by omega) HU1.out (by rw [HUL.out]; omega) (fwd_ways wr (wl.heap.size + 1) _ _ HWY.out (by rw [HGL.out]; omega) (cellAt HM.out.box rfl) (block_lt HM.out.box)) HZ.out HZS.out).mono ?_
              rintro e w' ⟨v, e1, h1, h2⟩
              rw [hER] at e1 h1
              have hr : RRow w' v R := VRow.of_row h1
              obtain ⟨a, c, hv⟩ := rrow_slice hr
              rw [hnR] at hv
              subst hv
              exact ⟨a, c, e1, hr, h2⟩)
            have HDP : Hid (∀ X, Below wr.heap.size wr X → Calls Try.prog 11 #[.agg #[.string hd, .slice a8 nL c8], .slice m1 i mc, .slice va j vc] X fun e w' => ∃ a c, e = .returned (.tuple #[.agg #[.string hd, .slice a nR c], .int .i64 E]) ∧ RRow w' (.slice a nR c) R ∧ Below X.heap.size X w') := hideIt (fun X hX => by
              refine (docapp_any hd (.slice a8 nL c8) L (.slice m1 i mc) (us.take 30) (.slice va j vc) (ws.take 30) X (r8.below hX) (by omega) (HU2.out.below hX) (by rw [HUL.out]; omega) (HWY.out.below hX) (by rw [HGL.out]; omega) (by have := HZ.out; omega) (fun i' x hx => by have := (HZS.out i' x hx).1; omega) HZU.out).mono ?_
              rintro e w' ⟨v, e1, h1, h2⟩
              rw [← appP_docP, hER] at e1 h1
              obtain ⟨a, c, hv⟩ := rrow_slice h1
              rw [hnR] at hv
              subst hv
              exact ⟨a, c, e1, h1, h2⟩)
            have HSM : Hid (∀ (X : World) (v v2 : Value) (l : List Rf), l.length ≤ 260 → RRow X v l → RRow X v2 l → Calls Try.prog 13 #[.agg #[.string hd, v], .agg #[.string hd, v2]] X fun e w' => e = .returned (.bool true) ∧ Below X.heap.size X w') := hideIt (fun X v v2 l hl h1 h2 => by
              refine (same_any hd hd v v2 l l X h1 h2 (by omega) (by omega)).mono ?_
              rintro e w' ⟨rfl, hb⟩
              exact ⟨by simp, hb⟩)
            have HRL := hideIt hRl
            have HB7R := hideIt (fun (X : World) (hX : Below wr.heap.size wr X) => HB7.out X (HBR.out X hX))
            have HLL := hideIt hLL
            have p0 := cellAt (i := 0) p7 rfl
            have p1 := cellAt (i := 1) p7 rfl
            have hc3 : (¬ (j : Int) < (n2 : Int) ∧ decide ((j : Int) < (n2 : Int)) = false) ∨ ((j : Int) < (n2 : Int) ∧ decide ((j : Int) < (n2 : Int)) = true ∧ ¬ (j : Int) < 30 ∧ decide ((j : Int) < 30) = false) := by
              by_cases g : (j : Int) < (n2 : Int)
              · exact .inr ⟨g, decide_eq_true g, by omega, decide_eq_false (by omega)⟩
              · exact .inl ⟨g, decide_eq_false g⟩
            clear hlt p7 p8 r7 r8 bw hER hRl hnR hLL
            rcases hc3 with ⟨t1, t2⟩ | ⟨t1, t2, t3, t4⟩
            all_goals go_wp2_with (first
              | (go_at_call 8; refine HAP.out.mono ?_; rintro e w8 ⟨a14, c14, rfl, hr14, hb8⟩; have BY8 := hideIt (hb8.alloc hb8.size (.cells #[.string hd, .slice a14 nR c14] 24)); have C14 := hideIt (alloc_at (w := w8) (o := .cells #[.string hd, .slice a14 nR c14] 24) rfl); have R14 := hideIt (hr14.below (new_below w8 (.cells #[.string hd, .slice a14 nR c14] 24))); have hf8 := (HB7.out _ (HBR.out _ BY8.out)).2.1; have f0 := cellAt (i := 0) hf8 rfl; have f1 := cellAt (i := 1) hf8 rfl; have hbx8 := (HM.out.below BY8.out).box; have f2 := cellAt (i := 0) hbx8 rfl; clear hr14 hb8 hf8 hbx8)
              | (go_at_call 11; refine (HDP.out _ BY8.out).mono ?_; rintro e w9 ⟨a16, c16, rfl, hr16, hb9⟩; have HX := hideIt (last_at (hd := hd) BY8.out R14.out C14.out hr16 hb9 HB7R.out); clear hr16 hb9)
              | (go_at_call 12; refine (HAW.out _).mono ?_; rintro e w10 ⟨rfl, hb10⟩; have X10 := hideIt (HX.out _ hb10); have s0 := cellAt (i := 0) X10.out.1 rfl; have s1 := cellAt (i := 1) X10.out.1 rfl; have s2 := cellAt (i := 0) X10.out.2.1 rfl; have s3 := cellAt (i := 1) X10.out.2.1 rfl; have B10 := hideIt hb10; clear hb10)
              | (go_at_call 13; refine (HSM.out _ _ _ L HLL.out X11.out.2.2.2.2.2.2.1 X11.out.2.2.2.2.2.2.2.1).mono ?_; rintro e w12 ⟨rfl, hb12⟩; have B12 := hideIt (below_step X11.out.2.2.2.2.2.2.2.2 (Nat.le_refl _) hb12); clear hb12)
              | (go_at_call 13; refine (HSM.out _ _ _ R HRL.out X10.out.2.2.1 X10.out.2.2.2.1).mono ?_; rintro e w11 ⟨rfl, hb11⟩; have X11 := hideIt (HX.out _ (below_step B10.out (Nat.le_refl _) hb11)); have s4 := cellAt (i := 0) X11.out.2.2.2.2.1 rfl; have s5 := cellAt (i := 1) X11.out.2.2.2.2.1 rfl; have s6 := cellAt (i := 0) X11.out.2.2.2.2.2.1 rfl; have s7 := cellAt (i := 1) X11.out.2.2.2.2.2.1 rfl; clear hb11))
            all_goals go_ret
            all_goals exact ⟨rfl, B12.out⟩
      · go_wp2
        (try clear g3 g4)
        (try clear g1 g2)
        go_loopw [13] (fun ti wr => ∃ (j : Nat) (va : Option Addr) (vc : Nat), j ≤ n2 ∧ j ≤ 30 ∧ ti = .int .i64 (j : Int) ∧ WM wl j (rfsV (ws.take j)) (.slice va j vc) wr) (fun ti _ => 30 - (intOf ti).toNat)
        case atStart => exact ⟨0, _, _, by omega, by omega, rfl, HW0.out⟩
        case round =>
          obtain ⟨j, va, vc, hj, hj30, rfl, hm⟩ := hrel
          have HM := hideIt hm
          have j30 : (j : Int) ≤ 30 := by omega
          have j0 : (0 : Int) ≤ (j : Int) := by omega
          have b0 := cellAt (i := 0) hm.box rfl
          clear hm
          by_cases hlt : j < n2 ∧ j < 30
          · obtain ⟨hl1, hl2⟩ := hlt
            have q1 : (j : Int) < (n2 : Int) := by omega
            have q2 : decide ((j : Int) < (n2 : Int)) = true := decide_eq_true q1
            have q3 : (j : Int) < 30 := by omega
            have q4 : decide ((j : Int) < 30) = true := decide_eq_true q3
            obtain ⟨⟨xa, xb⟩, hxi⟩ : ∃ x, ws[j]? = some x := ⟨ws[j]'(by rw [HN2.out]; exact hl1), by simp⟩
            obtain ⟨b, o, c, e, hcc⟩ := HWR.out j _ hxi
            cases e
            have HCC := hideIt hcc
            have HBX : Hid (∀ X, Below wl.heap.size wl X → Below w.heap.size w X) := hideIt (fun X hX => (HB7.out X (below_step HB.out (Nat.le_refl _) hX)).2.2.2.2)
            obtain ⟨c0, c1⟩ := HCC.out wr (HBX.out _ HM.out.bel)
            have HPQ : Hid (rfsV (ws.take (j + 1)) = rfsV (ws.take j) ++ rfV (Rf.mk xa xb)) := hideIt (rfs_snoc hxi)
            have M0 := hideIt (HM.out.below (new_below wr (.cells #[.string xa, .string xb] 37)))
            have M1 : Hid (WM wl j (rfsV (ws.take j)) (.slice va j vc) (wr.alloc (.cells #[.string xa, .string xb] 37)).drew) := hideIt (M0.out.below (drew_below _))
            obtain ⟨d0, d1⟩ := HCC.out _ (HBX.out _ M1.out.bel)
            obtain ⟨e0, e1⟩ := HCC.out _ (HBX.out _ M0.out.bel)
            have b1 := cellAt (i := 0) M1.out.box rfl
            have b2 := cellAt (i := 0) M0.out.box rfl
            obtain ⟨r0, hr0, hs0, hs1, hs2⟩ := info_parts infoWy
            generalize rfsV (ws.take j) = xs at HM M0 M1 HPQ
            clear hcc hxi
            go_wp2
            go_region_law (first
              | (refine Cb.step_append_own (by rfl) _ _ 36 (by rfl) wl.heap.size 37 r0 (.agg #[.string ⟨#[]⟩, .string ⟨#[]⟩]) 2 32 Try.underlying36 hr0 hs0 hs1 hs2 rfl (by decide) _ j _ (by rfl) M1.out.row ⟨wr.heap.size, 0, none⟩ 1 1 (rfV (Rf.mk xa xb)) (by rfl) rfl (rf_oneY (Rf.mk xa xb) _ _ (alloc_at (w := wr) rfl)) (fun u hu => rfsV_one [Rf.mk xa xb] u (by simpa [rfsV] using hu)) (by unfold maxLen; omega) (by omega) M1.out.bel.size ?_; intro v3 w7 hown7 hg7; obtain ⟨g7, cp7, rfl⟩ := urow_form hown7; have A7 := hideIt (M1.out.append hg7 hown7); have x1 := A7.out.1.1; have y1 := A7.out.1.2; clear hown7 hg7))
            all_goals go_wp2
            all_goals go_roundw
            all_goals first
              | exact ⟨j + 1, _, _, by omega, by omega, by go_num, by rw [HPQ.out]; exact A7.out.2⟩
              | (simp [intOf]; omega)
          · have HG : Hid (ws.take j = ws.take 30) := hideIt (by
              have : j = n2 ∨ j = 30 := by omega
              rcases this with rfl | rfl
              · rw [← HN2.out, List.take_length, List.take_of_length_le (by rw [HN2.out]; omega)]
              · rfl)
            have HGL : Hid ((ws.take 30).length = j) := hideIt (by rw [List.length_take, HN2.out]; omega)
            rw [HG.out] at HM
            have HBR : Hid (∀ X, Below wr.heap.size wr X → Below wb.heap.size wb X) := hideIt (fun X hX => below_step HB.out (Nat.le_refl _) (below_step HM.out.bel (Nat.le_refl _) hX))
            have HU1 : Hid (URow wr (.slice k1 i kc) (us.take 30)) := hideIt (by
              show VRow 4 wr _ (us.take 30).length _
              rw [HUL.out]
              exact VRow.of_row (own_below HO1.out HM.out.bel))
            have HU2 : Hid (URow wr (.slice m1 i mc) (us.take 30)) := hideIt (by
              show VRow 4 wr _ (us.take 30).length _
              rw [HUL.out]
              exact VRow.of_row (own_below HO2.out HM.out.bel))
            have HWY : Hid (RRow wr (.slice va j vc) (ws.take 30)) := hideIt (by
              show VRow 2 wr _ (ws.take 30).length _
              rw [HGL.out]
              exact VRow.of_row HM.out.row)
            obtain ⟨p7, p8, r7, r8, bw⟩ := HB7.out wr (HBR.out _ (Below.refl _ _))
            have hLL : L.length ≤ 260 := by rw [HNL.out]; exact HLN.out
            obtain ⟨ER, hER⟩ : ∃ ER, appP (fwdB (ws.take 30)) hd L (us.take 30) = ER := ⟨_, rfl⟩
            have hRl := appP_len (fwdB (ws.take 30)) hd L (us.take 30) hLL
            rw [hER] at hRl
            obtain ⟨E, R⟩ := ER
            simp only at hRl
            obtain ⟨nR, hnR⟩ : ∃ k, R.length = k := ⟨_, rfl⟩
            have HAP : Hid (Calls Try.prog 8 #[.agg #[.string hd, .slice a7 nL c7], .slice k1 i kc, .func (.func 9) #[] #[.pointer (some ⟨wl.heap.size + 1, 0, none⟩)]] wr fun e w' => ∃ a c, e = .returned (.tuple #[.agg #[.string hd, .slice a nR c], .int .i64 E]) ∧ RRow w' (.slice a nR c) R ∧ Below wr.heap.size wr w') := hideIt (by
              refine (apply_any hd (.slice a7 nL c7) L (.slice k1 i kc) (us.take 30) 9 #[.pointer (some ⟨wl.heap.size + 1, 0, none⟩)] (fwdB (ws.take 30)) wr r7 (by omega) HU1.out (by rw [HUL.out]; omega) (fwd_ways wr (wl.heap.size + 1) _ _ HWY.out (by rw [HGL.out]; omega) (cellAt HM.out.box rfl) (block_lt HM.out.box)) HZ.out HZS.out).mono ?_
              rintro e w' ⟨v, e1, h1, h2⟩
              rw [hER] at e1 h1
              have hr : RRow w' v R := VRow.of_row h1
              obtain ⟨a, c, hv⟩ := rrow_slice hr
              rw [hnR] at hv
              subst hv
              exact ⟨a, c, e1, hr, h2⟩)
            have HDP : Hid (∀ X, Below wr.heap.size wr X → Calls Try.prog 11 #[.agg #[.string hd, .slice a8 nL c8], .slice m1 i mc, .slice va j vc] X fun e w' => ∃ a c, e = .returned (.tuple #[.agg #[.string hd, .slice a nR c], .int .i64 E]) ∧ RRow w' (.slice a nR c) R ∧ Below X.heap.size X w') := hideIt (fun X hX => by
              refine (docapp_any hd (.slice a8 nL c8) L (.slice m1 i mc) (us.take 30) (.slice va j vc) (ws.take 30) X (r8.below hX) (by omega) (HU2.out.below hX) (by rw [HUL.out]; omega) (HWY.out.below hX) (by rw [HGL.out]; omega) (by have := HZ.out; omega) (fun i' x hx => by have := (HZS.out i' x hx).1; omega) HZU.out).mono ?_
              rintro e w' ⟨v, e1, h1, h2⟩
              rw [← appP_docP, hER] at e1 h1
              obtain ⟨a, c, hv⟩ := rrow_slice h1
              rw [hnR] at hv
              subst hv
              exact ⟨a, c, e1, h1, h2⟩)
            have HSM : Hid (∀ (X : World) (v v2 : Value) (l : List Rf), l.length ≤ 260 → RRow X v l → RRow X v2 l → Calls Try.prog 13 #[.agg #[.string hd, v], .agg #[.string hd, v2]] X fun e w' => e = .returned (.bool true) ∧ Below X.heap.size X w') := hideIt (fun X v v2 l hl h1 h2 => by
              refine (same_any hd hd v v2 l l X h1 h2 (by omega) (by omega)).mono ?_
              rintro e w' ⟨rfl, hb⟩
              exact ⟨by simp, hb⟩)
            have HRL := hideIt hRl
            have HB7R := hideIt (fun (X : World) (hX : Below wr.heap.size wr X) => HB7.out X (HBR.out X hX))
            have HLL := hideIt hLL
            have p0 := cellAt (i := 0) p7 rfl
            have p1 := cellAt (i := 1) p7 rfl
            have hc3 : (¬ (j : Int) < (n2 : Int) ∧ decide ((j : Int) < (n2 : Int)) = false) ∨ ((j : Int) < (n2 : Int) ∧ decide ((j : Int) < (n2 : Int)) = true ∧ ¬ (j : Int) < 30 ∧ decide ((j : Int) < 30) = false) := by
              by_cases g : (j : Int) < (n2 : Int)
              · exact .inr ⟨g, decide_eq_true g, by omega, decide_eq_false (by omega)⟩
              · exact .inl ⟨g, decide_eq_false g⟩
            clear hlt p7 p8 r7 r8 bw hER hRl hnR hLL
            rcases hc3 with ⟨t1, t2⟩ | ⟨t1, t2, t3, t4⟩
            all_goals go_wp2_with (first
              | (go_at_call 8; refine HAP.out.mono ?_; rintro e w8 ⟨a14, c14, rfl, hr14, hb8⟩; have BY8 := hideIt (hb8.alloc hb8.size (.cells #[.string hd, .slice a14 nR c14] 24)); have C14 := hideIt (alloc_at (w := w8) (o := .cells #[.string hd, .slice a14 nR c14] 24) rfl); have R14 := hideIt (hr14.below (new_below w8 (.cells #[.string hd, .slice a14 nR c14] 24))); have hf8 := (HB7.out _ (HBR.out _ BY8.out)).2.1; have f0 := cellAt (i := 0) hf8 rfl; have f1 := cellAt (i := 1) hf8 rfl; have hbx8 := (HM.out.below BY8.out).box; have f2 := cellAt (i := 0) hbx8 rfl; clear hr14 hb8 hf8 hbx8)
              | (go_at_call 11; refine (HDP.out _ BY8.out).mono ?_; rintro e w9 ⟨a16, c16, rfl, hr16, hb9⟩; have HX := hideIt (last_at (hd := hd) BY8.out R14.out C14.out hr16 hb9 HB7R.out); clear hr16 hb9)
              | (go_at_call 12; refine (HAW.out _).mono ?_; rintro e w10 ⟨rfl, hb10⟩; have X10 := hideIt (HX.out _ hb10); have s0 := cellAt (i := 0) X10.out.1 rfl; have s1 := cellAt (i := 1) X10.out.1 rfl; have s2 := cellAt (i := 0) X10.out.2.1 rfl; have s3 := cellAt (i := 1) X10.out.2.1 rfl; have B10 := hideIt hb10; clear hb10)
              | (go_at_call 13; refine (HSM.out _ _ _ L HLL.out X11.out.2.2.2.2.2.2.1 X11.out.2.2.2.2.2.2.2.1).mono ?_; rintro e w12 ⟨rfl, hb12⟩; have B12 := hideIt (below_step X11.out.2.2.2.2.2.2.2.2 (Nat.le_refl _) hb12); clear hb12)
              | (go_at_call 13; refine (HSM.out _ _ _ R HRL.out X10.out.2.2.1 X10.out.2.2.2.1).mono ?_; rintro e w11 ⟨rfl, hb11⟩; have X11 := hideIt (HX.out _ (below_step B10.out (Nat.le_refl _) hb11)); have s4 := cellAt (i := 0) X11.out.2.2.2.2.1 rfl; have s5 := cellAt (i := 1) X11.out.2.2.2.2.1 rfl; have s6 := cellAt (i := 0) X11.out.2.2.2.2.2.1 rfl; have s7 := cellAt (i := 1) X11.out.2.2.2.2.2.1 rfl; clear hb11))
            all_goals go_ret
            all_goals exact ⟨rfl, B12.out⟩
end Go.Proofs.Ytecdjejemohkgaa.Rf
