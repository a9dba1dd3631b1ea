/- Refs: refs as the document has them: the law's Ref, walked. -/
import Derived.Test.YtbpjdphflkncjaaGreatDoorRfDc
namespace Go.Proofs.YtbpjdphflkncjaaGreatDoor.Rf
open Cb Go.RowKit Go.Shelf
/-- Refs that are being copied. -/
structure RM (w0 : World) (hd : ByteArray) (v0 : Value) (m : List Rf) (v : Value) (w : World) : Prop where
  bel : Below w0.heap.size w0 w
  hi : w0.heap.size + 2 < w.heap.size
  inb : w.heap[w0.heap.size]? = some (.cells #[.string hd, v0] 34 (0, 0))
  res : w.heap[w0.heap.size + 1]? = some (.cells #[.string ⟨#[]⟩, .slice none 0 0] 30 (0, 0))
  box : w.heap[w0.heap.size + 2]? = some (.cells #[.string hd, v] 30 (0, 0))
  row : w.ownsRow (w0.heap.size + 3) 65 2 v m.length (rfsV m)
theorem RM.below {w0 w w' : World} {hd : ByteArray} {m : List Rf} {v0 v : Value} (h : RM w0 hd v0 m v w) (hb : Below w.heap.size w w') : RM w0 hd v0 m v w' :=
  ⟨below_step h.bel (Nat.le_refl _) hb, Nat.lt_of_lt_of_le h.hi hb.size, (hb.block _ (by have := h.hi; omega)).trans h.inb, (hb.block _ (by have := h.hi; omega)).trans h.res, (hb.block _ h.hi).trans h.box, own_below h.row hb⟩
theorem RM.row_new {w0 w : World} {n : Nat} {hd : ByteArray} {m : List Rf} {v0 v : Value} (h : RM w0 hd v0 m v w) (hn : m.length = n) (o : Obj) : (w.alloc o).ownsRow (w0.heap.size + 3) 65 2 v n (rfsV m) := by
  subst hn
  exact own_below h.row ((Below.refl _ w).alloc (Nat.le_refl _) o)
theorem RM.append {w0 w w3 : World} {n : Nat} {hd : ByteArray} {m : List Rf} {v0 v v3 : Value} {o : Obj} (h : RM w0 hd v0 m v w) (hn : m.length = n) (x : Rf) (hg : (w.alloc o).grownBy w3 v.ownBlock) (hown : w3.ownsRow (w0.heap.size + 3) 65 2 v3 (n + 1) (rfsV m ++ rfV x)) :
    (w3.cell? ⟨w0.heap.size + 2, 1, none⟩ = some v ∧ w3.frozen? ⟨w0.heap.size + 2, 1, none⟩ = false) ∧ RM w0 hd v0 (m ++ [x]) v3 (w3.setCell ⟨w0.heap.size + 2, 1, none⟩ v3) := by
  subst hn
  have hge := row_ge h.row
  have hhi := h.hi
  have hsz : (w.alloc o).heap.size = w.heap.size + 1 := by simp
  have old : ∀ k, k < w0.heap.size + 3 → w3.heap[k]? = w.heap[k]? := fun k hk => by
    rw [hg.block k (by omega) (fun e => by have := hge _ e.symm; omega), Below.heap_alloc _ _ _ (by omega)]
  have b0 := (old w0.heap.size (by omega)).trans h.inb
  have b1 := (old (w0.heap.size + 1) (by omega)).trans h.res
  have b2 := (old (w0.heap.size + 2) (by omega)).trans h.box
  have hbel : Below w0.heap.size w0 w3 := Below.grown (h.bel.alloc (by omega) o) hg (by omega) (fun k hk => by have := hge k hk; omega)
  refine ⟨⟨cellAt b2 rfl, frz b2 1⟩, ⟨hbel.setCell (by show w0.heap.size ≤ w0.heap.size + 2; omega) _, ?_, ?_, ?_, ?_, ?_⟩⟩
  · have := hg.size; simp [World.setCell] at *; omega
  · rw [heap_setCell_other w3 ⟨w0.heap.size + 2, 1, none⟩ _ _ (by simp)]; exact b0
  · rw [heap_setCell_other w3 ⟨w0.heap.size + 2, 1, none⟩ _ _ (by simp)]; exact b1
  · rw [heap_setCell_same w3 _ 1 _ 30 _ b2]
    rfl
  · have e : rfsV (m ++ [x]) = rfsV m ++ rfV x := by rw [rfsV_append]; simp [rfsV]
    rw [e, List.length_append]
    exact own_other hown ⟨w0.heap.size + 2, 1, none⟩ (by show w0.heap.size + 2 < _; omega) _
theorem one_ref2 (w : World) (a b : ByteArray) (j : Nat) (u : Value) (h : (rfV ⟨a, b⟩)[j]? = some u) : (w.alloc (.cells #[.string a, .string b] 65)).cell? ((⟨w.heap.size, 0, none⟩ : Addr).add j) = some u := by
  rw [Addr.add_lit, Nat.zero_add, World.cell?_alloc_at _ _ _ _ rfl]
  match j, h with
  | 0, h => simpa [rfV] using h
  | 1, h => simpa [rfV] using h
  | j + 2, h => simp [rfV] at h
/-- The same refs in rows of a call's own. -/
def RefTo (w : World) (hd : ByteArray) (l : List Rf) (e : Ending) (w' : World) : Prop := ∃ v, e = .returned (.agg #[.string hd, v]) ∧ RRow w' v l ∧ Below w.heap.size w w'
theorem infoRs2 : (Tryz.prog.info? 30).map (·.size) = some 2 := by kernel_rfl
set_option maxHeartbeats 3200000 in
set_option maxRecDepth 100000 in
theorem ref_of (hd : ByteArray) (v0 : Value) (l : List Rf) (w : World) (h : RRow w v0 l) (hl : l.length ≤ 100000) :
    Calls Tryz.prog 10 #[.agg #[.string hd, v0]] w fun e w' => RefTo w hd l e w' := by
  have HT : Hid (∀ e w', RefTo w hd l e w' ↔ ∃ v, e = .returned (.agg #[.string hd, v]) ∧ RRow w' v l ∧ Below w.heap.size w w') := hideIt (fun _ _ => Iff.rfl)
  obtain ⟨i0, hi0, hz0, hz1, hz2⟩ := info_parts infoRr
  obtain ⟨n, hn⟩ : ∃ n, l.length = n := ⟨_, rfl⟩
  have HN := hideIt hn
  have nI : (n : Int) ≤ 100000 := by omega
  have HR : Hid (∀ i x, l[i]? = some x → ∃ b o c, v0 = .slice (some ⟨b, o, none⟩) n c ∧ ∀ w', Below w.heap.size w w' → w'.cell? ⟨b, o + i * 2, none⟩ = some (.string x.nm) ∧ w'.cell? ⟨b, o + i * 2 + 1, none⟩ = some (.string x.id)) := hideIt (fun i x hi => by
    have hil := (List.getElem?_eq_some_iff.1 hi).1
    obtain ⟨b, o, c, e, _, _, h3⟩ := h.cells (by omega)
    rw [hn] at e
    exact ⟨b, o, c, e, fun w' hb' => h3 i x hi w' hb'⟩)
  have HM0 : Hid (∀ w', w' = (((w.alloc (.cells #[.string hd, v0] 34)).alloc (.cells #[.string ⟨#[]⟩, .slice none 0 0] 30)).alloc (.cells #[.string hd, .slice none 0 0] 30)) → RM w hd v0 [] (.slice none 0 0) w') := hideIt (fun w' e => by
    subst e
    refine ⟨(((Below.refl _ w).alloc (Nat.le_refl _) _).alloc (by simp) _).alloc (by simp; omega) _, by simp, ?_, ?_, alloc_at (by simp), by simpa [rfsV] using own_nil _ _ _ _⟩
    · rw [Below.heap_alloc _ _ _ (by simp; omega), Below.heap_alloc _ _ _ (by simp)]; exact alloc_at rfl
    · rw [Below.heap_alloc _ _ _ (by simp)]; exact alloc_at (by simp))
  obtain ⟨h0, a, c, hv, h1, h2, h3⟩ := h
  subst hv
  rw [hn] at HR h1 HM0 ⊢
  clear h0 h3 hn
  go_enter Tryz.func10, Tryz.ntmps10
  go_wp2
  go_loopw [4] (fun t wr => ∃ (i : Nat) (v : Value), i ≤ n ∧ t = .int .i64 (i : Int) ∧ RM w hd (.slice a n c) (l.take i) v wr) (fun t _ => n - (intOf t).toNat)
  case atStart => exact ⟨0, _, by omega, rfl, HM0.out _ rfl⟩
  case round =>
    obtain ⟨i, v, hi, rfl, rm⟩ := hrel
    have HRM := hideIt rm
    have hti : (l.take i).length = i := by rw [List.length_take, HN.out]; omega
    have HTI := hideIt hti
    have HRD := hideIt (rm.below (w' := wr.drew) ⟨rfl, rfl, rfl, Nat.le_refl _, fun _ _ => rfl⟩)
    obtain ⟨sa, sc, hv⟩ := own_slice rm.row
    rw [hti] at hv
    subst hv
    have d1 := cellAt (i := 1) rm.inb rfl
    clear hti rm
    by_cases hlt : i < n
    · have j0 : (0 : Int) ≤ (i : Int) := by omega
      have j1 : (i : Int) < (n : Int) := by omega
      have j2 : decide ((i : Int) < (n : Int)) = true := decide_eq_true j1
      obtain ⟨x, hxi⟩ : ∃ x, l[i]? = some x := ⟨l[i]'(by rw [HN.out]; exact hlt), by simp⟩
      have HXI : Hid (l.take (i + 1) = l.take i ++ [x]) := hideIt (by rw [List.take_add_one, hxi]; rfl)
      obtain ⟨b, o, c', e, hcc⟩ := HR.out i x hxi
      cases e
      obtain ⟨xn, xd⟩ := x
      have hw1 := hcc wr HRM.out.bel
      obtain ⟨c0, c1⟩ := hw1
      have e1 := cellAt (i := 1) HRM.out.box rfl
      have hbn := HRM.out.below ((Below.refl _ wr).alloc (Nat.le_refl _) (.cells #[.string xn, .string xd] 65))
      have m1 := cellAt (i := 1) hbn.box rfl
      have m2 := cellAt (i := 1) hbn.inb rfl
      obtain ⟨m3, m4⟩ := hcc _ hbn.bel
      clear hxi hcc hbn
      go_wp2
      go_region_law (first
        | (refine Cb.step_append_own (by rfl) _ _ 28 (by rfl) (w.heap.size + 3) 65 i0 (.agg #[.string ⟨#[]⟩, .string ⟨#[]⟩]) 2 32 Tryz.underlying28 hi0 hz0 hz1 hz2 rfl (by decide) _ i _ (by rfl) (HRD.out.row_new HTI.out _) ⟨wr.heap.size, 0, none⟩ 1 1 (rfV (Rf.mk xn xd)) (by rfl) rfl (one_ref2 wr.drew xn xd) (fun u hu => rfsV_one [Rf.mk xn xd] u (by simpa [rfsV] using hu)) (by unfold maxLen; omega) (by omega) (by have := HRD.out.hi; simp at *; omega) ?_; intro v3 w7 hown7 hg7; obtain ⟨g7, cp7, rfl⟩ := row_form2 hown7; have A7 := hideIt (HRD.out.append HTI.out (Rf.mk xn xd) hg7 hown7); have x1 := A7.out.1.1; have y1 := A7.out.1.2; clear hown7 hg7))
      all_goals go_wp2
      all_goals go_roundw
      all_goals first
        | exact ⟨i + 1, _, by omega, by go_num, by rw [HXI.out]; exact A7.out.2⟩
        | (simp [intOf]; omega)
    · have j2 : decide ((i : Int) < (n : Int)) = false := decide_eq_false (by omega)
      obtain rfl : i = n := by omega
      have e0 := cellAt (i := 0) HRM.out.box rfl
      have e1 := cellAt (i := 1) HRM.out.box rfl
      have q0 := cellAt (i := 0) HRM.out.res rfl
      have q1 := cellAt (i := 1) HRM.out.res rfl
      have z0 := frz HRM.out.res 0
      have z1 := frz HRM.out.res 1
      have HFN : Hid (RRow ((wr.setCell ⟨w.heap.size + 1, 0, none⟩ (.string hd)).setCell ⟨w.heap.size + 1, 1, none⟩ (.slice sa i sc)) (.slice sa i sc) l ∧ Below w.heap.size w ((wr.setCell ⟨w.heap.size + 1, 0, none⟩ (.string hd)).setCell ⟨w.heap.size + 1, 1, none⟩ (.slice sa i sc))) := hideIt (by
        have hrow := HRM.out.row
        have hll : l.take i = l := List.take_of_length_le (by rw [HN.out]; exact Nat.le_refl _)
        rw [hll] at hrow
        exact ⟨VRow.of_row (own_other (own_other hrow ⟨w.heap.size + 1, 0, none⟩ (by show w.heap.size + 1 < _; omega) _) ⟨w.heap.size + 1, 1, none⟩ (by show w.heap.size + 1 < _; omega) _), (HRM.out.bel.setCell (p := ⟨w.heap.size + 1, 0, none⟩) (by show w.heap.size ≤ w.heap.size + 1; omega) _).setCell (p := ⟨w.heap.size + 1, 1, none⟩) (by show w.heap.size ≤ w.heap.size + 1; omega) _⟩)
      have HRES := hideIt HRM.out.res
      go_wp2
      (try simp only [Exit.inBlock, Exit.then])
      refine bodyPost_ret (v := .agg #[.string hd, .slice sa i sc]) (results_cell_row Tryz.results10 _ _ (w.heap.size + 1) 30 _ (0, 0) _ rfl ?_ Tryz.underlying30 rfl infoRs2) rfl ((HT.out _ _).2 ⟨_, rfl, HFN.out.1, HFN.out.2⟩)
      rw [heap_setCell_same _ (w.heap.size + 1) 1 _ 30 _ (heap_setCell_same wr (w.heap.size + 1) 0 _ 30 _ HRES.out)]
      rfl
end Go.Proofs.YtbpjdphflkncjaaGreatDoor.Rf
