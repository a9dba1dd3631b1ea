/- Refs: refs as the document has them: the law's Ref, walked. Labels: the document's test of a ref's name, at any length. Refs: Check, in the document. Refs: the law's own functions: refs that are not too many: walked. Refs: the same refs? The law's own function: walked. Refs: the same refs? The law's own function: walked. Refs: the law's Ref once more, with where its row stands. Refs as an argument, opened. -/
import Derived.Test.YtknmmlfdlfioiaaGreatDoorRfDc
import Derived.Test.YtknmmlfdlfioiaaGreatDoorRfRe
import Derived.Test.YtknmmlfdlfioiaaGreatDoorRfRi
import Derived.Laws.StructEq
import Derived.BigQuiet
import Derived.ProofKit
import Derived.OpenShut
import Derived.Deep.Slices
import Derived.Deep.Strs
import Derived.Lib.SmallJoins
namespace Go.Proofs.YtknmmlfdlfioiaaGreatDoor.Rf
open Cb Go.RowKit Go.Shelf
/-- Refs that are being copied. -/
structure RM (w0 : World) (hd : ByteArray) (v0 : Value) (m : List Rf) (v : Value) (w : World) : Prop where
  bel : Below w0.heap.size w0 w
  hi : w0.heap.size + 2 < w.heap.size
  inb : w.heap[w0.heap.size]? = some (.cells #[.string hd, v0] 37 (0, 0))
  res : w.heap[w0.heap.size + 1]? = some (.cells #[.string ⟨#[]⟩, .slice none 0 0] 28 (0, 0))
  box : w.heap[w0.heap.size + 2]? = some (.cells #[.string hd, v] 28 (0, 0))
  row : w.ownsRow (w0.heap.size + 3) 64 2 v m.length (rfsV m)
theorem RM.below {w0 w w' : World} {hd : ByteArray} {m : List Rf} {v0 v : Value} (h : RM w0 hd v0 m v w) (hb : Below w.heap.size w w') : RM w0 hd v0 m v w' :=
  ⟨below_step h.bel (Nat.le_refl _) hb, Nat.lt_of_lt_of_le h.hi hb.size, (hb.block _ (by have := h.hi; omega)).trans h.inb, (hb.block _ (by have := h.hi; omega)).trans h.res, (hb.block _ h.hi).trans h.box, own_below h.row hb⟩
theorem RM.row_new {w0 w : World} {n : Nat} {hd : ByteArray} {m : List Rf} {v0 v : Value} (h : RM w0 hd v0 m v w) (hn : m.length = n) (o : Obj) : (w.alloc o).ownsRow (w0.heap.size + 3) 64 2 v n (rfsV m) := by
  subst hn
  exact own_below h.row ((Below.refl _ w).alloc (Nat.le_refl _) o)
theorem RM.append {w0 w w3 : World} {n : Nat} {hd : ByteArray} {m : List Rf} {v0 v v3 : Value} {o : Obj} (h : RM w0 hd v0 m v w) (hn : m.length = n) (x : Rf) (hg : (w.alloc o).grownBy w3 v.ownBlock) (hown : w3.ownsRow (w0.heap.size + 3) 64 2 v3 (n + 1) (rfsV m ++ rfV x)) :
    (w3.cell? ⟨w0.heap.size + 2, 1, none⟩ = some v ∧ w3.frozen? ⟨w0.heap.size + 2, 1, none⟩ = false) ∧ RM w0 hd v0 (m ++ [x]) v3 (w3.setCell ⟨w0.heap.size + 2, 1, none⟩ v3) := by
  subst hn
  have hge := row_ge h.row
  have hhi := h.hi
  have hsz : (w.alloc o).heap.size = w.heap.size + 1 := by simp
  have old : ∀ k, k < w0.heap.size + 3 → w3.heap[k]? = w.heap[k]? := fun k hk => by
    rw [hg.block k (by omega) (fun e => by have := hge _ e.symm; omega), Below.heap_alloc _ _ _ (by omega)]
  have b0 := (old w0.heap.size (by omega)).trans h.inb
  have b1 := (old (w0.heap.size + 1) (by omega)).trans h.res
  have b2 := (old (w0.heap.size + 2) (by omega)).trans h.box
  have hbel : Below w0.heap.size w0 w3 := Below.grown (h.bel.alloc (by omega) o) hg (by omega) (fun k hk => by have := hge k hk; omega)
  refine ⟨⟨cellAt b2 rfl, frz b2 1⟩, ⟨hbel.setCell (by show w0.heap.size ≤ w0.heap.size + 2; omega) _, ?_, ?_, ?_, ?_, ?_⟩⟩
  · have := hg.size; simp [World.setCell] at *; omega
  · rw [heap_setCell_other w3 ⟨w0.heap.size + 2, 1, none⟩ _ _ (by simp)]; exact b0
  · rw [heap_setCell_other w3 ⟨w0.heap.size + 2, 1, none⟩ _ _ (by simp)]; exact b1
  · rw [heap_setCell_same w3 _ 1 _ 28 _ b2]
    rfl
  · have e : rfsV (m ++ [x]) = rfsV m ++ rfV x := by rw [rfsV_append]; simp [rfsV]
    rw [e, List.length_append]
    exact own_other hown ⟨w0.heap.size + 2, 1, none⟩ (by show w0.heap.size + 2 < _; omega) _
theorem one_ref2 (w : World) (a b : ByteArray) (j : Nat) (u : Value) (h : (rfV ⟨a, b⟩)[j]? = some u) : (w.alloc (.cells #[.string a, .string b] 64)).cell? ((⟨w.heap.size, 0, none⟩ : Addr).add j) = some u := by
  rw [Addr.add_lit, Nat.zero_add, World.cell?_alloc_at _ _ _ _ rfl]
  match j, h with
  | 0, h => simpa [rfV] using h
  | 1, h => simpa [rfV] using h
  | j + 2, h => simp [rfV] at h
/-- The same refs in rows of a call's own. -/
def RefTo (w : World) (hd : ByteArray) (l : List Rf) (e : Ending) (w' : World) : Prop := ∃ v, e = .returned (.agg #[.string hd, v]) ∧ RRow w' v l ∧ Below w.heap.size w w'
theorem infoRs2 : (Tryz.prog.info? 28).map (·.size) = some 2 := by kernel_rfl
set_option maxHeartbeats 3200000 in
set_option maxRecDepth 100000 in
theorem ref_of (hd : ByteArray) (v0 : Value) (l : List Rf) (w : World) (h : RRow w v0 l) (hl : l.length ≤ 100000) :
    Calls Tryz.prog 11 #[.agg #[.string hd, v0]] w fun e w' => RefTo w hd l e w' := by
  have HT : Hid (∀ e w', RefTo w hd l e w' ↔ ∃ v, e = .returned (.agg #[.string hd, v]) ∧ RRow w' v l ∧ Below w.heap.size w w') := hideIt (fun _ _ => Iff.rfl)
  obtain ⟨i0, hi0, hz0, hz1, hz2⟩ := info_parts infoRr
  obtain ⟨n, hn⟩ : ∃ n, l.length = n := ⟨_, rfl⟩
  have HN := hideIt hn
  have nI : (n : Int) ≤ 100000 := by omega
  have HR : Hid (∀ i x, l[i]? = some x → ∃ b o c, v0 = .slice (some ⟨b, o, none⟩) n c ∧ ∀ w', Below w.heap.size w w' → w'.cell? ⟨b, o + i * 2, none⟩ = some (.string x.nm) ∧ w'.cell? ⟨b, o + i * 2 + 1, none⟩ = some (.string x.id)) := hideIt (fun i x hi => by
    have hil := (List.getElem?_eq_some_iff.1 hi).1
    obtain ⟨b, o, c, e, _, _, h3⟩ := h.cells (by omega)
    rw [hn] at e
    exact ⟨b, o, c, e, fun w' hb' => h3 i x hi w' hb'⟩)
  have HM0 : Hid (∀ w', w' = (((w.alloc (.cells #[.string hd, v0] 37)).alloc (.cells #[.string ⟨#[]⟩, .slice none 0 0] 28)).alloc (.cells #[.string hd, .slice none 0 0] 28)) → RM w hd v0 [] (.slice none 0 0) w') := hideIt (fun w' e => by
    subst e
    refine ⟨(((Below.refl _ w).alloc (Nat.le_refl _) _).alloc (by simp) _).alloc (by simp; omega) _, by simp, ?_, ?_, alloc_at (by simp), by simpa [rfsV] using own_nil _ _ _ _⟩
    · rw [Below.heap_alloc _ _ _ (by simp; omega), Below.heap_alloc _ _ _ (by simp)]; exact alloc_at rfl
    · rw [Below.heap_alloc _ _ _ (by simp)]; exact alloc_at (by simp))
  obtain ⟨h0, a, c, hv, h1, h2, h3⟩ := h
  subst hv
  rw [hn] at HR h1 HM0 ⊢
  clear h0 h3 hn
  go_enter Tryz.func11, Tryz.ntmps11
  go_wp2
  go_loopw [4] (fun t wr => ∃ (i : Nat) (v : Value), i ≤ n ∧ t = .int .i64 (i : Int) ∧ RM w hd (.slice a n c) (l.take i) v wr) (fun t _ => n - (intOf t).toNat)
  case atStart => exact ⟨0, _, by omega, rfl, HM0.out _ rfl⟩
  case round =>
    obtain ⟨i, v, hi, rfl, rm⟩ := hrel
    have HRM := hideIt rm
    have hti : (l.take i).length = i := by rw [List.length_take, HN.out]; omega
    have HTI := hideIt hti
    have HRD := hideIt (rm.below (w' := wr.drew) ⟨rfl, rfl, rfl, Nat.le_refl _, fun _ _ => rfl⟩)
    obtain ⟨sa, sc, hv⟩ := own_slice rm.row
    rw [hti] at hv
    subst hv
    have d1 := cellAt (i := 1) rm.inb rfl
    clear hti rm
    by_cases hlt : i < n
    · have j0 : (0 : Int) ≤ (i : Int) := by omega
      have j1 : (i : Int) < (n : Int) := by omega
      have j2 : decide ((i : Int) < (n : Int)) = true := decide_eq_true j1
      obtain ⟨x, hxi⟩ : ∃ x, l[i]? = some x := ⟨l[i]'(by rw [HN.out]; exact hlt), by simp⟩
      have HXI : Hid (l.take (i + 1) = l.take i ++ [x]) := hideIt (by rw [List.take_add_one, hxi]; rfl)
      obtain ⟨b, o, c', e, hcc⟩ := HR.out i x hxi
      cases e
      obtain ⟨xn, xd⟩ := x
      have hw1 := hcc wr HRM.out.bel
      obtain ⟨c0, c1⟩ := hw1
      have e1 := cellAt (i := 1) HRM.out.box rfl
      have hbn := HRM.out.below ((Below.refl _ wr).alloc (Nat.le_refl _) (.cells #[.string xn, .string xd] 64))
      have m1 := cellAt (i := 1) hbn.box rfl
      have m2 := cellAt (i := 1) hbn.inb rfl
      obtain ⟨m3, m4⟩ := hcc _ hbn.bel
      clear hxi hcc hbn
      go_wp2
      go_region_law (first
        | (refine Cb.step_append_own (by rfl) _ _ 26 (by rfl) (w.heap.size + 3) 64 i0 (.agg #[.string ⟨#[]⟩, .string ⟨#[]⟩]) 2 32 Tryz.underlying26 hi0 hz0 hz1 hz2 rfl (by decide) _ i _ (by rfl) (HRD.out.row_new HTI.out _) ⟨wr.heap.size, 0, none⟩ 1 1 (rfV (Rf.mk xn xd)) (by rfl) rfl (one_ref2 wr.drew xn xd) (fun u hu => rfsV_one [Rf.mk xn xd] u (by simpa [rfsV] using hu)) (by unfold maxLen; omega) (by omega) (by have := HRD.out.hi; simp at *; omega) ?_; intro v3 w7 hown7 hg7; obtain ⟨g7, cp7, rfl⟩ := row_form2 hown7; have A7 := hideIt (HRD.out.append HTI.out (Rf.mk xn xd) hg7 hown7); have x1 := A7.out.1.1; have y1 := A7.out.1.2; clear hown7 hg7))
      all_goals go_wp2
      all_goals go_roundw
      all_goals first
        | exact ⟨i + 1, _, by omega, by go_num, by rw [HXI.out]; exact A7.out.2⟩
        | (simp [intOf]; omega)
    · have j2 : decide ((i : Int) < (n : Int)) = false := decide_eq_false (by omega)
      obtain rfl : i = n := by omega
      have e0 := cellAt (i := 0) HRM.out.box rfl
      have e1 := cellAt (i := 1) HRM.out.box rfl
      have q0 := cellAt (i := 0) HRM.out.res rfl
      have q1 := cellAt (i := 1) HRM.out.res rfl
      have z0 := frz HRM.out.res 0
      have z1 := frz HRM.out.res 1
      have HFN : Hid (RRow ((wr.setCell ⟨w.heap.size + 1, 0, none⟩ (.string hd)).setCell ⟨w.heap.size + 1, 1, none⟩ (.slice sa i sc)) (.slice sa i sc) l ∧ Below w.heap.size w ((wr.setCell ⟨w.heap.size + 1, 0, none⟩ (.string hd)).setCell ⟨w.heap.size + 1, 1, none⟩ (.slice sa i sc))) := hideIt (by
        have hrow := HRM.out.row
        have hll : l.take i = l := List.take_of_length_le (by rw [HN.out]; exact Nat.le_refl _)
        rw [hll] at hrow
        exact ⟨VRow.of_row (own_other (own_other hrow ⟨w.heap.size + 1, 0, none⟩ (by show w.heap.size + 1 < _; omega) _) ⟨w.heap.size + 1, 1, none⟩ (by show w.heap.size + 1 < _; omega) _), (HRM.out.bel.setCell (p := ⟨w.heap.size + 1, 0, none⟩) (by show w.heap.size ≤ w.heap.size + 1; omega) _).setCell (p := ⟨w.heap.size + 1, 1, none⟩) (by show w.heap.size ≤ w.heap.size + 1; omega) _⟩)
      have HRES := hideIt HRM.out.res
      go_wp2
      (try simp only [Exit.inBlock, Exit.then])
      refine bodyPost_ret (v := .agg #[.string hd, .slice sa i sc]) (results_cell_row Tryz.results11 _ _ (w.heap.size + 1) 28 _ (0, 0) _ rfl ?_ Tryz.underlying28 rfl infoRs2) rfl ((HT.out _ _).2 ⟨_, rfl, HFN.out.1, HFN.out.2⟩)
      rw [heap_setCell_same _ (w.heap.size + 1) 1 _ 28 _ (heap_setCell_same wr (w.heap.size + 1) 0 _ 28 _ HRES.out)]
      rfl
end Go.Proofs.YtknmmlfdlfioiaaGreatDoor.Rf
namespace Go.Proofs.YtknmmlfdlfioiaaGreatDoor.Rf
open Go.RowKit
end Go.Proofs.YtknmmlfdlfioiaaGreatDoor.Rf
namespace Go.Proofs.YtknmmlfdlfioiaaGreatDoor.Rf
open Cb Go.RowKit
theorem refK_ok (s : ByteArray) : (refK s == 0) = !okN s := by
  have h := (refK_says s).1
  have h0 : 0 ≤ refK s := by unfold refK; split <;> (try split) <;> (try split) <;> omega
  rw [okN, h]
  by_cases e : refK s = 0
  · rw [e]; rfl
  · rw [decide_eq_true (by omega)]
    simp [e]
theorem refK_head (s : ByteArray) : (refK s == 1) = headB s := (refK_says s).2.symm
theorem low_says (q x : ByteArray) : (Op.bytesLess x.toList q.toList || x.toList == q.toList) = !decide (lt q x) := by
  rw [bl_lt, tl_eq]
  rcases lt_tri q x with h | h | h
  · rw [decide_eq_true h, decide_eq_false (fun k => lt_irrefl _ (lt_trans h k)), decide_eq_false (fun e => lt_irrefl q (by rw [e] at h; exact absurd h (lt_irrefl _)))]
    rfl
  · subst h
    simp [lt_irrefl]
  · rw [decide_eq_true h, decide_eq_false (fun k => lt_irrefl _ (lt_trans h k))]
    rfl
end Go.Proofs.YtknmmlfdlfioiaaGreatDoor.Rf
namespace Go.Proofs.YtknmmlfdlfioiaaGreatDoor.Rf
open Cb Go.RowKit
/-- Refs that a call hands back: another row in what was there. -/
def CutTo (w : World) (hd : ByteArray) (l : List Rf) (e : Ending) (w' : World) : Prop := ∃ v, e = .returned (.agg #[.string hd, v]) ∧ RRow w' v l ∧ Below w.heap.size w w'
theorem RRow.take {w : World} {a : Option Addr} {n c : Nat} {l : List Rf} (h : RRow w (.slice a n c) l) (k : Nat) (hk : k ≤ l.length) : RRow w (.slice a k c) (l.take k) := by
  obtain ⟨h0, a', c', e, h1, h2, h3⟩ := h
  cases e
  have hl : (l.take k).length = k := by rw [List.length_take]; omega
  refine ⟨rfsV_len _, a, c, by rw [hl], by omega, h2, fun hp => ?_⟩
  obtain ⟨b, o, e, hc⟩ := h3 (by omega)
  refine ⟨b, o, e, hc.1, fun i u hu => hc.2 i u ?_⟩
  rw [← rfsV_take, List.getElem?_take] at hu
  split at hu
  · exact hu
  · cases hu
end Go.Proofs.YtknmmlfdlfioiaaGreatDoor.Rf
namespace Go.Proofs.YtknmmlfdlfioiaaGreatDoor.Rf
open Cb Go.RowKit
noncomputable instance : DecidableEq Rf := fun _ _ => Classical.propDecidable _
theorem rf_eq (x y : Rf) : ((x.nm.toList == y.nm.toList) && (x.id.toList == y.id.toList)) = decide (x = y) := by
  rw [tl_eq, tl_eq]
  obtain ⟨a, b⟩ := x
  obtain ⟨c, d⟩ := y
  by_cases h1 : a = c <;> by_cases h2 : b = d <;> simp [h1, h2]
theorem neqR (x y : Rf) (w : World) : (binOp BinOp.neq 64 (.agg #[.string x.nm, .string x.id]) (.agg #[.string y.nm, .string y.id])).run Tryz.prog w = .ok (.bool (!((x.nm.toList == y.nm.toList) && (x.id.toList == y.id.toList)))) w := by
  have hu : Tryz.prog.underlying 64 = some (.struct (Tryz.prog.fieldsOf 64)) := by kernel_rfl
  have hp : Tryz.prog.stoodInHeld 64 = false := by kernel_rfl
  have h9 : Tryz.prog.underlying 9 = some .string := by kernel_rfl
  have hm : (Tryz.prog.fieldsOf 64).toList.map (fun f => (f.name, f.type, f.offset)) = [("Name", 9, 0), ("ID", 9, 1)] := by kernel_rfl
  rw [run_neq_struct, run_equalIn_agg _ _ _ _ _ hu hp]
  generalize (Tryz.prog.fieldsOf 64).toList = fs at hm
  obtain ⟨f0, f1, rfl⟩ : ∃ f0 f1, fs = [f0, f1] := by
    have hl := congrArg List.length hm
    rw [List.length_map] at hl
    rcases fs with _ | ⟨a, _ | ⟨b, _ | ⟨c, r⟩⟩⟩
    · simp at hl
    · simp at hl
    · exact ⟨a, b, rfl⟩
    · simp at hl
  simp only [List.map_cons, List.map_nil, List.cons.injEq, Prod.mk.injEq, and_true] at hm
  obtain ⟨⟨n0, t0, o0⟩, n1, t1, o1⟩ := hm
  have s9 : ∀ w, (isAgg 9).run Tryz.prog w = .ok false w := Tryz.isAgg9
  have q : ∀ (a b : ByteArray) w, (Op.equalIn 9999 9 (.string a) (.string b)).run Tryz.prog w = .ok (a.toList == b.toList) w := fun a b w => run_equalIn_string w 9998 9 a b h9
  have p0 : ∀ (a b : ByteArray) w, (part 9 #[.string a, .string b] 0).run Tryz.prog w = .ok (.string a) w := fun a b w => by simp [part, s9]
  have p1 : ∀ (a b : ByteArray) w, (part 9 #[.string a, .string b] 1).run Tryz.prog w = .ok (.string b) w := fun a b w => by simp [part, s9]
  have e0 : f0.name ≠ "_" := by rw [n0]; decide
  have e1 : f1.name ≠ "_" := by rw [n1]; decide
  rw [Op.eqFields, if_pos e0, t0, o0]
  simp only [Sem.run_bind, p0, q, Result.andThen_ok]
  cases hx : (x.nm.toList == y.nm.toList)
  · simp
  · simp only [Bool.not_true, Bool.false_eq_true, if_false]
    rw [Op.eqFields, if_pos e1, t1, o1]
    simp only [Sem.run_bind, p1, q, Result.andThen_ok]
    cases hy : (x.id.toList == y.id.toList)
    · simp
    · simp [Op.eqFields]
end Go.Proofs.YtknmmlfdlfioiaaGreatDoor.Rf
namespace Go.Proofs.YtknmmlfdlfioiaaGreatDoor.Rf
open Cb Go.RowKit
theorem heads_cells {w : World} {hd hd2 : ByteArray} {v v2 : Value} : ∀ w', Below ((w.alloc (.cells #[.string hd, v] 37)).alloc (.cells #[.string hd2, v2] 28)).heap.size ((w.alloc (.cells #[.string hd, v] 37)).alloc (.cells #[.string hd2, v2] 28)) w' → (w'.cell? ⟨w.heap.size, 1, none⟩ = some v ∧ w'.cell? ⟨w.heap.size + 1, 1, none⟩ = some v2) ∧ Below w.heap.size w w' := by
  intro w' hb
  have h1 : ((w.alloc (.cells #[.string hd, v] 37)).alloc (.cells #[.string hd2, v2] 28)).heap[w.heap.size + 1]? = some (.cells #[.string hd2, v2] 28) := alloc_at (by simp)
  have h0 : ((w.alloc (.cells #[.string hd, v] 37)).alloc (.cells #[.string hd2, v2] 28)).heap[w.heap.size]? = some (.cells #[.string hd, v] 37) := by
    rw [((Below.refl (w.heap.size + 1) (w.alloc (.cells #[.string hd, v] 37))).alloc (by simp) (.cells #[.string hd2, v2] 28)).block w.heap.size (by omega)]
    exact alloc_at rfl
  refine ⟨⟨cellAt (by rw [hb.block w.heap.size (by simp; omega)]; exact h0) rfl, cellAt (by rw [hb.block (w.heap.size + 1) (by simp)]; exact h1) rfl⟩, ?_⟩
  exact (((Below.refl _ w).alloc (Nat.le_refl _) _).alloc (by simp) _).trans (hb.mono (by simp; omega))
set_option maxHeartbeats 1600000 in
set_option maxRecDepth 100000 in
theorem same_any (hd hd2 : ByteArray) (v v2 : Value) (l l2 : List Rf) (w : World) (h : RRow w v l) (h2 : RRow w v2 l2) (hl : l.length ≤ 100000) (hl2 : l2.length ≤ 100000) :
    Calls Tryz.prog 15 #[.agg #[.string hd, v], .agg #[.string hd2, v2]] w fun e w' => e = .returned (.bool (decide (hd = hd2 ∧ l = l2))) ∧ Below w.heap.size w w' := by
  obtain ⟨W, hW⟩ : ∃ W, (w.alloc (.cells #[.string hd, v] 37)).alloc (.cells #[.string hd2, v2] 28) = W := ⟨_, rfl⟩
  have HF := hideIt (heads_cells (w := w) (hd := hd) (hd2 := hd2) (v := v) (v2 := v2))
  rw [hW] at HF
  obtain ⟨⟨hc1, hc2⟩, hb⟩ := HF.out W (Below.refl _ _)
  have HB := hideIt hb
  have HW := hideIt hW
  obtain ⟨n, hn⟩ : ∃ n, l.length = n := ⟨_, rfl⟩
  obtain ⟨n2, hn2⟩ : ∃ n, l2.length = n := ⟨_, rfl⟩
  have HN := hideIt hn
  have HN2 := hideIt hn2
  have nI : (n : Int) ≤ 100000 := by omega
  have nI2 : (n2 : Int) ≤ 100000 := by omega
  have HR : Hid (∀ i x, l[i]? = some x → ∃ b o c, v = .slice (some ⟨b, o, none⟩) n c ∧ ∀ w', Below W.heap.size W w' → w'.cell? ⟨b, o + i * 2, none⟩ = some (.string x.nm) ∧ w'.cell? ⟨b, o + i * 2 + 1, none⟩ = some (.string x.id)) := hideIt (fun i x hi => by
    have hil := (List.getElem?_eq_some_iff.1 hi).1
    obtain ⟨b, o, c, e, _, _, h3⟩ := h.cells (by omega)
    rw [hn] at e
    exact ⟨b, o, c, e, fun w' hb' => h3 i x hi w' (below_step hb (Nat.le_refl _) hb')⟩)
  have HR2 : Hid (∀ i x, l2[i]? = some x → ∃ b o c, v2 = .slice (some ⟨b, o, none⟩) n2 c ∧ ∀ w', Below W.heap.size W w' → w'.cell? ⟨b, o + i * 2, none⟩ = some (.string x.nm) ∧ w'.cell? ⟨b, o + i * 2 + 1, none⟩ = some (.string x.id)) := hideIt (fun i x hi => by
    have hil := (List.getElem?_eq_some_iff.1 hi).1
    obtain ⟨b, o, c, e, _, _, h3⟩ := h2.cells (by omega)
    rw [hn2] at e
    exact ⟨b, o, c, e, fun w' hb' => h3 i x hi w' (below_step hb (Nat.le_refl _) hb')⟩)
  have hs := tl_eq (a := hd) (b := hd2)
  obtain ⟨r, hr⟩ : ∃ r, decide (hd = hd2 ∧ l = l2) = r := ⟨_, rfl⟩
  have HRR := hideIt hr
  rw [hr]
  obtain ⟨_, a, c, rfl, h1, _, _⟩ := h
  obtain ⟨_, a2, c2, rfl, h3, _, _⟩ := h2
  rw [hn] at h1 HF hW HR HW hc1 ⊢
  rw [hn2] at h3 HF hW HR2 HW hc2 ⊢
  obtain ⟨s, hse⟩ : ∃ s, decide (hd = hd2) = s := ⟨_, rfl⟩
  rw [hse] at hs
  clear hn hn2 hl hl2 hb hW hr
  cases s
  · have HZ : Hid (r = false) := hideIt (by
      rw [← HRR.out]
      exact decide_eq_false (fun k => (of_decide_eq_false hse) k.1))
    go_enter Tryz.func15, Tryz.ntmps15
    go_wp2
    go_ret
    exact ⟨by rw [HZ.out]; rfl, by rw [HW.out]; exact HB.out⟩
  · by_cases hnn : n = n2
    · subst hnn
      have m1 : ((n : Int) == (n : Int)) = true := by simp
      have HEH := hideIt (of_decide_eq_true hse)
      go_enter Tryz.func15, Tryz.ntmps15
      go_wp2
      go_loopw [5] (fun s5 wr => ∃ i : Nat, i ≤ n ∧ s5 = .int .i64 (i : Int) ∧ Below W.heap.size W wr ∧ (∀ j, j < i → l[j]? = l2[j]?)) (fun s5 _ => n - (intOf s5).toNat)
      case atStart => exact ⟨0, by omega, rfl, by rw [HW.out]; exact Below.refl _ _, fun j hj => by omega⟩
      case round =>
        obtain ⟨i, hi, rfl, hbr, hpre⟩ := hrel
        obtain ⟨⟨d1, d2⟩, d3⟩ := HF.out _ hbr
        have HPR := hideIt hpre
        have HBR := hideIt hbr
        have HD3 := hideIt d3
        clear hpre d3
        by_cases hlt : i < n
        · have i1 : (i : Int) < (n : Int) := by omega
          have i2 : decide ((i : Int) < (n : Int)) = true := decide_eq_true i1
          obtain ⟨x, hxi⟩ : ∃ x, l[i]? = some x := ⟨l[i]'(by rw [HN.out]; exact hlt), by simp⟩
          obtain ⟨y, hyi⟩ : ∃ y, l2[i]? = some y := ⟨l2[i]'(by rw [HN2.out]; exact hlt), by simp⟩
          obtain ⟨b, o, c', e, hcc⟩ := HR.out i x hxi
          obtain ⟨b2, o2, c2', e2, hcc2⟩ := HR2.out i y hyi
          cases e
          cases e2
          obtain ⟨k0, k1⟩ := hcc wr hbr
          obtain ⟨g0, g1⟩ := hcc2 wr hbr
          have HXI := hideIt hxi
          have HYI := hideIt hyi
          have hq := neqR x y
          rw [rf_eq] at hq
          obtain ⟨f, hf⟩ : ∃ f, decide (x = y) = f := ⟨_, rfl⟩
          rw [hf] at hq
          have HFF := hideIt hf
          clear hf hxi hyi hcc hcc2 hbr
          cases f
          · have HZ : Hid (r = false) := hideIt (by
              rw [← HRR.out]
              refine decide_eq_false (fun k => (of_decide_eq_false HFF.out) ?_)
              have h1 := HXI.out
              rw [k.2, HYI.out] at h1
              cases h1
              rfl)
            go_wp2
            go_quiet (fail)
            go_wp2
            go_ret
            exact ⟨by rw [HZ.out]; rfl, below_step HD3.out (by have := HD3.out.size; omega) (below_drewN _ _)⟩
          · go_wp2
            go_quiet (fail)
            go_wp2
            go_roundw
            case rel =>
              refine ⟨i + 1, by omega, by go_num, below_step HBR.out (by have := HBR.out.size; omega) (below_drewN _ _), fun j hj => ?_⟩
              rcases (by omega : j < i ∨ j = i) with h | h
              · exact HPR.out j h
              · subst h
                rw [HXI.out, HYI.out, of_decide_eq_true HFF.out]
            case measure => simp [intOf]; omega
        · have i2 : decide ((i : Int) < (n : Int)) = false := decide_eq_false (by omega)
          obtain rfl : i = n := by omega
          have HZ : Hid (r = true) := hideIt (by
            rw [← HRR.out]
            refine decide_eq_true ⟨HEH.out, List.ext_getElem? (fun j => ?_)⟩
            by_cases hj : j < i
            · exact HPR.out j hj
            · rw [List.getElem?_eq_none (by rw [HN.out]; omega), List.getElem?_eq_none (by rw [HN2.out]; omega)])
          go_wp2
          go_ret
          exact ⟨by rw [HZ.out]; rfl, HD3.out⟩
    · have m0 : ¬ (n : Int) = (n2 : Int) := by omega
      have m1 : ((n : Int) == (n2 : Int)) = false := beq_eq_false_iff_ne.2 m0
      have m2 : ((n : Int) != (n2 : Int)) = true := by simp [bne, m1]
      have HZ : Hid (r = false) := hideIt (by
        rw [← HRR.out]
        refine decide_eq_false (fun k => hnn ?_)
        rw [← HN.out, ← HN2.out, k.2])
      go_enter Tryz.func15, Tryz.ntmps15
      go_wp2
      go_ret
      exact ⟨by rw [HZ.out]; rfl, by rw [HW.out]; exact HB.out⟩
end Go.Proofs.YtknmmlfdlfioiaaGreatDoor.Rf
namespace Go.Proofs.YtknmmlfdlfioiaaGreatDoor.Rf
open Cb Go.RowKit Go.Shelf
/-- The same refs in rows of a call's own. -/
def RefOw (w : World) (hd : ByteArray) (l : List Rf) (e : Ending) (w' : World) : Prop := ∃ v, e = .returned (.agg #[.string hd, v]) ∧ RRow w' v l ∧ Below w.heap.size w w' ∧ ∀ k, v.ownBlock = some k → w.heap.size ≤ k
set_option maxHeartbeats 3200000 in
set_option maxRecDepth 100000 in
theorem ref_own (hd : ByteArray) (v0 : Value) (l : List Rf) (w : World) (h : RRow w v0 l) (hl : l.length ≤ 100000) :
    Calls Tryz.prog 11 #[.agg #[.string hd, v0]] w fun e w' => RefOw w hd l e w' := by
  have HT : Hid (∀ e w', RefOw w hd l e w' ↔ ∃ v, e = .returned (.agg #[.string hd, v]) ∧ RRow w' v l ∧ Below w.heap.size w w' ∧ ∀ k, v.ownBlock = some k → w.heap.size ≤ k) := hideIt (fun _ _ => Iff.rfl)
  obtain ⟨i0, hi0, hz0, hz1, hz2⟩ := info_parts infoRr
  obtain ⟨n, hn⟩ : ∃ n, l.length = n := ⟨_, rfl⟩
  have HN := hideIt hn
  have nI : (n : Int) ≤ 100000 := by omega
  have HR : Hid (∀ i x, l[i]? = some x → ∃ b o c, v0 = .slice (some ⟨b, o, none⟩) n c ∧ ∀ w', Below w.heap.size w w' → w'.cell? ⟨b, o + i * 2, none⟩ = some (.string x.nm) ∧ w'.cell? ⟨b, o + i * 2 + 1, none⟩ = some (.string x.id)) := hideIt (fun i x hi => by
    have hil := (List.getElem?_eq_some_iff.1 hi).1
    obtain ⟨b, o, c, e, _, _, h3⟩ := h.cells (by omega)
    rw [hn] at e
    exact ⟨b, o, c, e, fun w' hb' => h3 i x hi w' hb'⟩)
  have HM0 : Hid (∀ w', w' = (((w.alloc (.cells #[.string hd, v0] 37)).alloc (.cells #[.string ⟨#[]⟩, .slice none 0 0] 28)).alloc (.cells #[.string hd, .slice none 0 0] 28)) → RM w hd v0 [] (.slice none 0 0) w') := hideIt (fun w' e => by
    subst e
    refine ⟨(((Below.refl _ w).alloc (Nat.le_refl _) _).alloc (by simp) _).alloc (by simp; omega) _, by simp, ?_, ?_, alloc_at (by simp), by simpa [rfsV] using own_nil _ _ _ _⟩
    · rw [Below.heap_alloc _ _ _ (by simp; omega), Below.heap_alloc _ _ _ (by simp)]; exact alloc_at rfl
    · rw [Below.heap_alloc _ _ _ (by simp)]; exact alloc_at (by simp))
  obtain ⟨h0, a, c, hv, h1, h2, h3⟩ := h
  subst hv
  rw [hn] at HR h1 HM0 ⊢
  clear h0 h3 hn
  go_enter Tryz.func11, Tryz.ntmps11
  go_wp2
  go_loopw [4] (fun t wr => ∃ (i : Nat) (v : Value), i ≤ n ∧ t = .int .i64 (i : Int) ∧ RM w hd (.slice a n c) (l.take i) v wr) (fun t _ => n - (intOf t).toNat)
  case atStart => exact ⟨0, _, by omega, rfl, HM0.out _ rfl⟩
  case round =>
    obtain ⟨i, v, hi, rfl, rm⟩ := hrel
    have HRM := hideIt rm
    have hti : (l.take i).length = i := by rw [List.length_take, HN.out]; omega
    have HTI := hideIt hti
    have HRD := hideIt (rm.below (w' := wr.drew) ⟨rfl, rfl, rfl, Nat.le_refl _, fun _ _ => rfl⟩)
    obtain ⟨sa, sc, hv⟩ := own_slice rm.row
    rw [hti] at hv
    subst hv
    have d1 := cellAt (i := 1) rm.inb rfl
    clear hti rm
    by_cases hlt : i < n
    · have j0 : (0 : Int) ≤ (i : Int) := by omega
      have j1 : (i : Int) < (n : Int) := by omega
      have j2 : decide ((i : Int) < (n : Int)) = true := decide_eq_true j1
      obtain ⟨x, hxi⟩ : ∃ x, l[i]? = some x := ⟨l[i]'(by rw [HN.out]; exact hlt), by simp⟩
      have HXI : Hid (l.take (i + 1) = l.take i ++ [x]) := hideIt (by rw [List.take_add_one, hxi]; rfl)
      obtain ⟨b, o, c', e, hcc⟩ := HR.out i x hxi
      cases e
      obtain ⟨xn, xd⟩ := x
      have hw1 := hcc wr HRM.out.bel
      obtain ⟨c0, c1⟩ := hw1
      have e1 := cellAt (i := 1) HRM.out.box rfl
      have hbn := HRM.out.below ((Below.refl _ wr).alloc (Nat.le_refl _) (.cells #[.string xn, .string xd] 64))
      have m1 := cellAt (i := 1) hbn.box rfl
      have m2 := cellAt (i := 1) hbn.inb rfl
      obtain ⟨m3, m4⟩ := hcc _ hbn.bel
      clear hxi hcc hbn
      go_wp2
      go_region_law (first
        | (refine Cb.step_append_own (by rfl) _ _ 26 (by rfl) (w.heap.size + 3) 64 i0 (.agg #[.string ⟨#[]⟩, .string ⟨#[]⟩]) 2 32 Tryz.underlying26 hi0 hz0 hz1 hz2 rfl (by decide) _ i _ (by rfl) (HRD.out.row_new HTI.out _) ⟨wr.heap.size, 0, none⟩ 1 1 (rfV (Rf.mk xn xd)) (by rfl) rfl (one_ref2 wr.drew xn xd) (fun u hu => rfsV_one [Rf.mk xn xd] u (by simpa [rfsV] using hu)) (by unfold maxLen; omega) (by omega) (by have := HRD.out.hi; simp at *; omega) ?_; intro v3 w7 hown7 hg7; obtain ⟨g7, cp7, rfl⟩ := row_form2 hown7; have A7 := hideIt (HRD.out.append HTI.out (Rf.mk xn xd) hg7 hown7); have x1 := A7.out.1.1; have y1 := A7.out.1.2; clear hown7 hg7))
      all_goals go_wp2
      all_goals go_roundw
      all_goals first
        | exact ⟨i + 1, _, by omega, by go_num, by rw [HXI.out]; exact A7.out.2⟩
        | (simp [intOf]; omega)
    · have j2 : decide ((i : Int) < (n : Int)) = false := decide_eq_false (by omega)
      obtain rfl : i = n := by omega
      have e0 := cellAt (i := 0) HRM.out.box rfl
      have e1 := cellAt (i := 1) HRM.out.box rfl
      have q0 := cellAt (i := 0) HRM.out.res rfl
      have q1 := cellAt (i := 1) HRM.out.res rfl
      have z0 := frz HRM.out.res 0
      have z1 := frz HRM.out.res 1
      have HFN : Hid (RRow ((wr.setCell ⟨w.heap.size + 1, 0, none⟩ (.string hd)).setCell ⟨w.heap.size + 1, 1, none⟩ (.slice sa i sc)) (.slice sa i sc) l ∧ Below w.heap.size w ((wr.setCell ⟨w.heap.size + 1, 0, none⟩ (.string hd)).setCell ⟨w.heap.size + 1, 1, none⟩ (.slice sa i sc)) ∧ ∀ k, (Value.slice sa i sc).ownBlock = some k → w.heap.size ≤ k) := hideIt (by
        have hrow := HRM.out.row
        have hge := row_ge hrow
        have hll : l.take i = l := List.take_of_length_le (by rw [HN.out]; exact Nat.le_refl _)
        rw [hll] at hrow
        exact ⟨VRow.of_row (own_other (own_other hrow ⟨w.heap.size + 1, 0, none⟩ (by show w.heap.size + 1 < _; omega) _) ⟨w.heap.size + 1, 1, none⟩ (by show w.heap.size + 1 < _; omega) _), (HRM.out.bel.setCell (p := ⟨w.heap.size + 1, 0, none⟩) (by show w.heap.size ≤ w.heap.size + 1; omega) _).setCell (p := ⟨w.heap.size + 1, 1, none⟩) (by show w.heap.size ≤ w.heap.size + 1; omega) _, fun k hk => by have := hge k hk; omega⟩)
      have HRES := hideIt HRM.out.res
      go_wp2
      (try simp only [Exit.inBlock, Exit.then])
      refine bodyPost_ret (v := .agg #[.string hd, .slice sa i sc]) (results_cell_row Tryz.results11 _ _ (w.heap.size + 1) 28 _ (0, 0) _ rfl ?_ Tryz.underlying28 rfl infoRs2) rfl ((HT.out _ _).2 ⟨_, rfl, HFN.out.1, HFN.out.2.1, HFN.out.2.2⟩)
      rw [heap_setCell_same _ (w.heap.size + 1) 1 _ 28 _ (heap_setCell_same wr (w.heap.size + 1) 0 _ 28 _ HRES.out)]
      rfl
end Go.Proofs.YtknmmlfdlfioiaaGreatDoor.Rf
namespace Go.Proofs.YtknmmlfdlfioiaaGreatDoor.Rf
open Cb Go.ChangeShapes Go.WideShapes Go.ChangeAt Go.WideMaps Go.WideElems Go.RowKit Go.Deep
set_option maxRecDepth 100000
instance : Inhabited Rf := ⟨⟨⟨#[]⟩, ⟨#[]⟩⟩⟩
theorem cellsRf : Tryz.prog.cellsOf 65 = 2 := by kernel_rfl
theorem cellsRs : Tryz.prog.cellsOf 37 = 2 := by kernel_rfl
theorem cells9 : Tryz.prog.cellsOf 9 = 1 := by kernel_rfl
theorem list2 {α : Type} {cs : List α} (h : cs.length = 2) : ∃ c0 c1, cs = [c0, c1] := by
  match cs, h with
  | [c0, c1], _ => exact ⟨c0, c1, rfl⟩
theorem open_ref {H : Type} {enc : TypeId × Value → H} {W : World} {base : Nat} {sp : Nat → Bool} {held : Bool} {fuel : Nat} {cs : List Value} {y : DataW H × List MemPlace} (h : DataW.trod enc Tryz.prog W base sp held fuel 65 cs = some y) :
    ∃ x : Rf, cs = [.string x.nm, .string x.id] ∧ (x.nm.size ≤ maxLen ∧ x.id.size ≤ maxLen) ∧ y.2 = [] := by
  obtain ⟨y0, y1, n, hx, hl, h0, h1⟩ := trod_struct2 Tryz.underlying65 h
  obtain ⟨c0, c1, rfl⟩ := list2 (hl.trans cellsRf)
  simp [cells9] at h0 h1
  obtain ⟨z0, e0, x0, l0⟩ := DataW.trod_string Tryz.underlying9 h0
  obtain ⟨z1, e1, x1, l1⟩ := DataW.trod_string Tryz.underlying9 h1
  simp only [List.cons.injEq, and_true] at e0 e1
  subst e0 e1
  refine ⟨⟨z0, z1⟩, rfl, ⟨l0, l1⟩, ?_⟩
  rw [hx, x0, x1]
  rfl
theorem add2 (b o i j : Nat) : ((⟨b, o, none⟩ : Addr).add i).add j = ⟨b, o + i + j, none⟩ := by
  unfold Addr.add
  by_cases hi : i = 0
  · by_cases hj : j = 0 <;> simp [hi, hj]
  · by_cases hj : j = 0 <;> simp [hi, hj]
theorem cell_lt {w : World} {a : Addr} {v : Value} (h : w.cell? a = some v) : a.block < w.heap.size := by
  rcases Nat.lt_or_ge a.block w.heap.size with h' | h'
  · exact h'
  · have : w.heap[a.block]? = none := Array.getElem?_eq_none h'
    simp [World.cell?, this] at h
theorem cell_none {w : World} {b o : Nat} {sp : Option Nat} {v : Value} (h : w.cell? ⟨b, o, sp⟩ = some v) : sp = none := by
  cases sp with
  | none => rfl
  | some k =>
    unfold World.cell? at h
    split at h <;> simp at h
theorem vcells_of {w : World} {b o : Nat} {l : List Rf} (hb : b < w.heap.size) (h : ∀ (j : Nat) (x : Rf), l[j]? = some x → w.cell? ⟨b, o + j * 2, none⟩ = some (.string x.nm) ∧ w.cell? ⟨b, o + j * 2 + 1, none⟩ = some (.string x.id)) : VCells w b o (rfsV l) := by
  refine ⟨hb, fun i u hu => ?_⟩
  have hi : i < l.length * 2 := by
    have := (List.getElem?_eq_some_iff.1 hu).1
    rwa [rfsV_len] at this
  obtain ⟨x, hx⟩ : ∃ x, l[i / 2]? = some x := ⟨l[i / 2]'(by omega), by simp⟩
  obtain ⟨d0, d1⟩ := rfsV_at l _ x hx
  obtain ⟨c0, c1⟩ := h _ x hx
  rcases Nat.mod_two_eq_zero_or_one i with e | e
  · have e2 : i / 2 * 2 = i := by omega
    rw [e2] at d0 c0
    rw [d0] at hu
    rw [c0, hu]
  · have e2 : i / 2 * 2 + 1 = i := by omega
    rw [e2] at d1
    rw [d1] at hu
    rw [← hu, ← c1, Nat.add_assoc, e2]
theorem open_row {H : Type} {enc : TypeId × Value → H} {W : World} {fuel : Nat} {v : Value} {y : DataW H × List MemPlace} (hf : DataW.trod enc Tryz.prog W 0 (fun _ => true) true fuel 35 [v] = some y) :
    ∃ l : List Rf, RRow W v l ∧ (∀ (i : Nat) (x : Rf), l[i]? = some x → x.nm.size ≤ maxLen ∧ x.id.size ≤ maxLen) ∧ (∀ p ∈ y.2, p.block < W.heap.size) := by
  rcases open_slice Tryz.underlying35 hf with ⟨hcs, hx⟩ | ⟨a, len, cap, m, n, D, Pl, hcs, hb, hl, hm, hmm, hx, hel⟩
  · simp only [List.cons.injEq, and_true] at hcs
    subst hcs
    refine ⟨[], ⟨rfl, none, 0, rfl, Nat.le_refl _, ⟨Nat.zero_le _, fun _ => rfl⟩, fun h => by simp at h⟩, fun i x h => by simp at h, ?_⟩
    rw [hx]
    simp
  · simp only [List.cons.injEq, and_true] at hcs
    subst hcs
    simp only [if_true] at hmm
    subst hmm
    rw [cellsRf] at hel hx
    obtain ⟨E, hE⟩ := choose_lt (α := Rf) (p := fun i x => W.cell? ((a.add (i * 2)).add 0) = some (.string x.nm) ∧ W.cell? ((a.add (i * 2)).add 1) = some (.string x.id) ∧ (x.nm.size ≤ maxLen ∧ x.id.size ≤ maxLen) ∧ Pl i = []) (n := m) (fun i hi => by
      obtain ⟨cs', h1, h2⟩ := hel i hi
      obtain ⟨x, rfl, hs, hp⟩ := open_ref h2
      obtain ⟨_, _, hc⟩ := World.cells?_some h1
      exact ⟨x, (hc 0 (by omega)).trans rfl, (hc 1 (by omega)).trans rfl, hs, hp⟩)
    have hlt : 0 < m → a.block < W.heap.size ∧ a.spot = none := by
      intro h0
      have h1 : W.cell? a = some (.string (E 0).nm) := by
        have := (hE 0 h0).1
        simpa [Addr.add] using this
      exact ⟨cell_lt h1, by obtain ⟨b, o, sp⟩ := a; exact cell_none h1⟩
    have hln : ((List.range len).map E).length = len := by simp
    have hat : ∀ (i : Nat) (x : Rf), ((List.range len).map E)[i]? = some x → i < len ∧ x = E i := fun i x hx => by
      have hi : i < len := by have := (List.getElem?_eq_some_iff.1 hx).1; simpa using this
      rw [List.getElem?_map, List.getElem?_range hi] at hx
      exact ⟨hi, by simpa using hx.symm⟩
    refine ⟨(List.range len).map E, ⟨rfsV_len _, some a, m, by rw [hln], by simpa using hl, ⟨hm, fun h => by cases h⟩, fun h0 => ?_⟩, ?_, ?_⟩
    · rw [hln] at h0
      obtain ⟨h1, h2⟩ := hlt (by omega)
      refine ⟨a.block, a.off, by rw [← h2], vcells_of h1 fun i x hx => ?_⟩
      obtain ⟨hi, rfl⟩ := hat i x hx
      obtain ⟨e0, e1, _⟩ := hE i (by omega)
      obtain ⟨b, o, sp⟩ := a
      simp only at h2
      subst h2
      rw [add2] at e0 e1
      exact ⟨e0, e1⟩
    · intro i x hx
      obtain ⟨hi, rfl⟩ := hat i x hx
      exact (hE i (by omega)).2.2.1
    · intro p hp
      rw [hx] at hp
      rcases List.mem_append.1 hp with hp | hp
      · obtain ⟨k, hk, rfl⟩ := MemPlace.mem_row.1 hp
        exact (hlt (by omega)).1
      · obtain ⟨i, hi, hp⟩ := List.mem_flatMap.1 hp
        rw [(hE i (List.mem_range.1 hi)).2.2.2] at hp
        cases hp
/-- Refs, opened. -/
theorem open_refs {H : Type} {enc : TypeId × Value → H} {W : World} {b0 : Nat} {r : Reach} {v : Value} {d : DataW H} {ps : List MemPlace} (hv : Value.okWide Tryz.prog W r b0 37 v) (h : DataW.Trod enc Tryz.prog W 0 (fun _ => true) true 37 v d ps) :
    ∃ hd v0 l, v = .agg #[.string hd, v0] ∧ RRow W v0 l ∧ hd.size ≤ maxLen ∧ (∀ (i : Nat) (x : Rf), l[i]? = some x → x.nm.size ≤ maxLen ∧ x.id.size ≤ maxLen) ∧ (∀ p ∈ ps, p.block < W.heap.size) := by
  obtain ⟨v0, v1, y0, y1, n, rfl, rfl, rfl, h0, h1⟩ := Joins.open_agg2 Tryz.underlying37 (by kernel_rfl) cellsRs hv h
  obtain ⟨s0, e0, x0, u0⟩ := DataW.trod_string Tryz.underlying9 h0
  obtain ⟨l, hr, hz, hp⟩ := open_row h1
  simp only [List.cons.injEq, and_true] at e0
  subst e0 x0
  refine ⟨s0, v1, l, rfl, hr, u0, hz, fun p hp' => ?_⟩
  rcases List.mem_append.1 hp' with hp' | hp'
  · cases hp'
  · exact hp p hp'
end Go.Proofs.YtknmmlfdlfioiaaGreatDoor.Rf
