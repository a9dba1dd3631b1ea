/- Chains: the solver in memory. -/
import Derived.Test.YtdbbgpcjclmelaaGreatDoorChzAll
import Derived.Maps.GroupsBeside
import Derived.Maps.StringElems
namespace Go.Proofs.YtdbbgpcjclmelaaGreatDoor.Ch
open Cb Go.RowKit Go.Shelf Go.Maps
/-- Where the solver's parts lie: objects, spots, steps, who waits, who is solved, itself. -/
structure Ad where
  b1 : Nat
  b2 : Nat
  b3 : Nat
  b4 : Nat
  b5 : Nat
  bx : Nat
/-- They are six blocks, made behind w. -/
structure Ad.Ok (A : Ad) (w : World) (base : Nat) : Prop where
  nd : A.b1 ≠ A.b2 ∧ A.b1 ≠ A.b3 ∧ A.b1 ≠ A.b4 ∧ A.b1 ≠ A.b5 ∧ A.b1 ≠ A.bx ∧ A.b2 ≠ A.b3 ∧ A.b2 ≠ A.b4 ∧ A.b2 ≠ A.b5 ∧ A.b2 ≠ A.bx ∧ A.b3 ≠ A.b4 ∧ A.b3 ≠ A.b5 ∧ A.b3 ≠ A.bx ∧ A.b4 ≠ A.b5 ∧ A.b4 ≠ A.bx ∧ A.b5 ≠ A.bx
  ge : w.heap.size ≤ A.b1 ∧ w.heap.size ≤ A.b2 ∧ w.heap.size ≤ A.b3 ∧ w.heap.size ≤ A.b4 ∧ w.heap.size ≤ A.b5 ∧ w.heap.size ≤ A.bx
  lt : A.b1 < base ∧ A.b2 < base ∧ A.b3 < base ∧ A.b4 < base ∧ A.b5 < base ∧ A.bx < base
def keyL (r : ByteArray) : Lit := .string r.data.toList
/-- What a group of numbers reads as. -/
def dat : List Nat → DataW Value
  | [] => .nil
  | l => .slice (ChangeShapes.lits .i64 (l.map fun i : Nat => (i : Int))) []
def rawF (raws : List ByteArray) : Nat → Nat → Value := fun i _ => .string (raws.getD i ⟨#[]⟩)
def spF (raws : List ByteArray) (its : List Im) : Nat → Nat → Value := fun i c => if c = 0 then .string (shaB (raws.getD i ⟨#[]⟩)) else .int .i64 (its.getD i noIm).pl
def farF (dp : Nat → Nat) : Nat → Nat → Value := fun i _ => .int .i64 (dp i : Int)
def zS : Nat → Value := fun _ => .string ⟨#[]⟩
def zSp : Nat → Value := fun c => if c = 0 then .string ⟨#[]⟩ else .int .i64 0
def zN : Nat → Value := fun _ => .int .i64 0
/-- The box of the solver. -/
def BoxAt (A : Ad) (v : Value) (N : Nat) (X : World) : Prop := X.heap[A.bx]? = some (.cells #[v, .slice (some ⟨A.b1, 0, none⟩) N N, .slice (some ⟨A.b2, 0, none⟩) N N, .slice (some ⟨A.b3, 0, none⟩) N N, .map (some A.b4), .map (some A.b5)] 69 (0, 0))
/-- What is known of which: objects (dr), spots (ds), steps (df), ids (dm). -/
structure SM (w W0 : World) (A : Ad) (raws : List ByteArray) (its : List Im) (dp : Nat → Nat) (dr ds df dm : List Nat) (X : World) : Prop where
  r : X.heap[A.b1]? = some (.cells (fillC 1 raws.length (rawF raws) zS dr).toArray 9 (0, 0))
  s : X.heap[A.b2]? = some (.cells (fillC 2 raws.length (spF raws its) zSp ds).toArray 72 (0, 0))
  f : X.heap[A.b3]? = some (.cells (fillC 1 raws.length (farF dp) zN df).toArray 3 (0, 0))
  m : ∃ D : DataW Value, X.ownsMap Tryz.prog 9 (plainElem (H := Value) Tryz.prog 3) A.b5 dm.length D ∧ (∀ i r, raws[i]? = some r → (Maps.has D (keyL (shaB r)) = true ↔ i ∈ dm)) ∧ ∀ i r, i ∈ dm → raws[i]? = some r → ∀ z, D.atKey (keyL (shaB r)) z = .lit (.int .i64 (i : Int))
  k : ∀ g, g < W0.heap.size → g ≠ A.b1 → g ≠ A.b2 → g ≠ A.b3 → g ≠ A.b5 → X.heap[g]? = W0.heap[g]?
  z : W0.heap.size ≤ X.heap.size
  bl : Below w.heap.size w X
theorem fillC_same {k N : Nat} {F : Nat → Nat → Value} {Z : Nat → Value} {d : List Nat} {i : Nat} (h : ∀ c, F i c = Z c) : fillC k N F Z (d ++ [i]) = fillC k N F Z d := by
  unfold fillC
  apply List.map_congr_left
  intro j _
  by_cases hj : j / k ∈ d
  · rw [if_pos hj, if_pos (List.mem_append.2 (.inl hj))]
  · rw [if_neg hj]
    by_cases e : j / k = i
    · rw [if_pos (by simp [e]), e, h]
    · rw [if_neg (by simp [hj, e])]
section
variable {w W0 : World} {base : Nat} {A : Ad} {raws : List ByteArray} {its : List Im} {dp : Nat → Nat} {dr ds df dm : List Nat} {X Y : World} {v : Value}
theorem SM.after (h : SM w W0 A raws its dp dr ds df dm X) (hb : Below X.heap.size X Y) : SM w W0 A raws its dp dr ds df dm Y := by
  refine ⟨(hb.block _ (block_lt h.r)).trans h.r, (hb.block _ (block_lt h.s)).trans h.s, (hb.block _ (block_lt h.f)).trans h.f, ?_, fun g hg h1 h2 h3 h5 => (hb.block g (Nat.lt_of_lt_of_le hg h.z)).trans (h.k g hg h1 h2 h3 h5), Nat.le_trans h.z hb.size, h.bl.trans (hb.mono h.bl.size)⟩
  obtain ⟨D, ⟨es, cl, h1, h2⟩, h3⟩ := h.m
  exact ⟨D, ⟨es, cl, (hb.block _ (block_lt h1)).trans h1, h2⟩, h3⟩
theorem SM.box (h : SM w W0 A raws its dp dr ds df dm X) (hA : A.Ok w base) (hb : base ≤ W0.heap.size) (hx : BoxAt A v raws.length W0) : BoxAt A v raws.length X := by
  obtain ⟨n1, n2, n3, n4, n5, n6, n7, n8, n9, n10, n11, n12, n13, n14, n15⟩ := hA.nd
  unfold BoxAt at hx ⊢
  rw [h.k A.bx (by have := hA.lt; omega) (Ne.symm n5) (Ne.symm n9) (Ne.symm n12) (Ne.symm n15)]
  exact hx
theorem box_cells {N : Nat} (h : BoxAt A v N X) : X.cell? ⟨A.bx, 0, none⟩ = some v ∧ X.cell? ⟨A.bx, 1, none⟩ = some (.slice (some ⟨A.b1, 0, none⟩) N N) ∧ X.cell? ⟨A.bx, 2, none⟩ = some (.slice (some ⟨A.b2, 0, none⟩) N N) ∧ X.cell? ⟨A.bx, 3, none⟩ = some (.slice (some ⟨A.b3, 0, none⟩) N N) ∧ X.cell? ⟨A.bx, 4, none⟩ = some (.map (some A.b4)) ∧ X.cell? ⟨A.bx, 5, none⟩ = some (.map (some A.b5)) :=
  ⟨cellAt h rfl, cellAt h rfl, cellAt h rfl, cellAt h rfl, cellAt h rfl, cellAt h rfl⟩
theorem SM.items (h : SM w W0 A raws its dp dr ds df dm X) (hv : VRow 3 w v its.length (imsV its)) : VRow 3 X v its.length (imsV its) := hv.below h.bl
theorem other_cell {B i : Nat} (u : Value) {k : Nat} (hk : k ≠ B) : (X.setCell ⟨B, i, none⟩ u).heap[k]? = X.heap[k]? := heap_setCell_other X ⟨B, i, none⟩ k u hk
theorem size_cell {B i : Nat} (u : Value) : (X.setCell ⟨B, i, none⟩ u).heap.size = X.heap.size := by simp
theorem map_cell {B b i n : Nat} {u : Value} {D : DataW Value} (h : X.ownsMap Tryz.prog 9 (plainElem (H := Value) Tryz.prog 3) b n D) (hb : b ≠ B) : (X.setCell ⟨B, i, none⟩ u).ownsMap Tryz.prog 9 (plainElem (H := Value) Tryz.prog 3) b n D := by
  obtain ⟨es, cl, h1, h2⟩ := h
  exact ⟨es, cl, (other_cell u hb).trans h1, h2⟩
/-- How far the i-th is, laid. -/
theorem SM.far (h : SM w W0 A raws its dp dr ds df dm X) (hA : A.Ok w base) {i : Nat} (hi : i < raws.length) : SM w W0 A raws its dp dr ds (df ++ [i]) dm (X.setCell ⟨A.b3, i, none⟩ (.int .i64 (dp i : Int))) := by
  obtain ⟨n1, n2, n3, n4, n5, n6, n7, n8, n9, n10, n11, n12, n13, n14, n15⟩ := hA.nd
  obtain ⟨g1, g2, g3, g4, g5, g6⟩ := hA.ge
  refine ⟨(other_cell _ n2).trans h.r, (other_cell _ n6).trans h.s, ?_, ?_, fun g hg h1 h2 h3 h5 => (other_cell _ h3).trans (h.k g hg h1 h2 h3 h5), by rw [size_cell]; exact h.z, h.bl.setCell (p := ⟨A.b3, i, none⟩) g3 _⟩
  · rw [heap_setCell_same X A.b3 i _ 3 _ h.f]
    have := fill_set1 (F := farF dp) (Z := zN) (d := df) hi
    rw [← this]
    rfl
  · obtain ⟨D, h1, h2⟩ := h.m
    exact ⟨D, map_cell h1 (Ne.symm n11), h2⟩
theorem SM.far0 (h : SM w W0 A raws its dp dr ds df dm X) {i : Nat} (h0 : dp i = 0) : SM w W0 A raws its dp dr ds (df ++ [i]) dm X :=
  { h with f := by rw [fillC_same (fun c => by simp [farF, zN, h0])]; exact h.f }
/-- The i-th object, laid. -/
theorem SM.raw (h : SM w W0 A raws its dp dr ds df dm X) (hA : A.Ok w base) {i : Nat} {r : ByteArray} (hr : raws[i]? = some r) : SM w W0 A raws its dp (dr ++ [i]) ds df dm (X.setCell ⟨A.b1, i, none⟩ (.string r)) := by
  obtain ⟨n1, n2, n3, n4, n5, n6, n7, n8, n9, n10, n11, n12, n13, n14, n15⟩ := hA.nd
  obtain ⟨g1, g2, g3, g4, g5, g6⟩ := hA.ge
  have hi : i < raws.length := (List.getElem?_eq_some_iff.1 hr).1
  have e : rawF raws i 0 = .string r := by rw [rawF, List.getD, hr]; rfl
  refine ⟨?_, (other_cell _ (Ne.symm n1)).trans h.s, (other_cell _ (Ne.symm n2)).trans h.f, ?_, fun g hg h1 h2 h3 h5 => (other_cell _ h1).trans (h.k g hg h1 h2 h3 h5), by rw [size_cell]; exact h.z, h.bl.setCell (p := ⟨A.b1, i, none⟩) g1 _⟩
  · rw [heap_setCell_same X A.b1 i _ 9 _ h.r]
    have := fill_set1 (F := rawF raws) (Z := zS) (d := dr) hi
    rw [e] at this
    rw [this]
  · obtain ⟨D, h1, h2⟩ := h.m
    exact ⟨D, map_cell h1 (Ne.symm n4), h2⟩
/-- The i-th spot, laid. -/
theorem SM.spot (h : SM w W0 A raws its dp dr ds df dm X) (hA : A.Ok w base) {i : Nat} {r : ByteArray} {x : Im} (hr : raws[i]? = some r) (hx : its[i]? = some x) : SM w W0 A raws its dp dr (ds ++ [i]) df dm ((X.setCell ⟨A.b2, i * 2, none⟩ (.string (shaB r))).setCell ⟨A.b2, i * 2 + 1, none⟩ (.int .i64 x.pl)) := by
  obtain ⟨n1, n2, n3, n4, n5, n6, n7, n8, n9, n10, n11, n12, n13, n14, n15⟩ := hA.nd
  obtain ⟨g1, g2, g3, g4, g5, g6⟩ := hA.ge
  have hi : i < raws.length := (List.getElem?_eq_some_iff.1 hr).1
  have e0 : spF raws its i 0 = .string (shaB r) := by rw [spF, if_pos rfl, List.getD, hr]; rfl
  have e1 : spF raws its i 1 = .int .i64 x.pl := by rw [spF, if_neg (by omega), List.getD, hx]; rfl
  refine ⟨((other_cell _ n1).trans (other_cell _ n1)).trans h.r, ?_, ((other_cell _ (Ne.symm n6)).trans (other_cell _ (Ne.symm n6))).trans h.f, ?_, fun g hg h1 h2 h3 h5 => ((other_cell _ h2).trans (other_cell _ h2)).trans (h.k g hg h1 h2 h3 h5), by rw [size_cell, size_cell]; exact h.z, (h.bl.setCell (p := ⟨A.b2, i * 2, none⟩) g2 _).setCell (p := ⟨A.b2, i * 2 + 1, none⟩) g2 _⟩
  · rw [heap_setCell_same _ A.b2 (i * 2 + 1) _ 72 _ (heap_setCell_same X A.b2 (i * 2) _ 72 _ h.s)]
    have := fill_set2 (F := spF raws its) (Z := zSp) (d := ds) hi
    rw [e0, e1] at this
    rw [this]
  · obtain ⟨D, h1, h2⟩ := h.m
    exact ⟨D, map_cell (map_cell h1 (Ne.symm n8)) (Ne.symm n8), h2⟩
/-- The i-th id, laid. -/
theorem SM.id (h : SM w W0 A raws its dp dr ds df dm X) (hA : A.Ok w base) (hF : ∀ (i j : Nat) (a b : ByteArray), raws[i]? = some a → raws[j]? = some b → shaB a = shaB b → i = j) {i : Nat} {r : ByteArray} (hr : raws[i]? = some r) : ∃ D : DataW Value, X.ownsMap Tryz.prog 9 (plainElem (H := Value) Tryz.prog 3) A.b5 dm.length D ∧ Maps.has D (keyL (shaB r)) = decide (i ∈ dm) ∧
    ∀ Y : World, Y.ownsMap Tryz.prog 9 (plainElem (H := Value) Tryz.prog 3) A.b5 (dm.length + 1) (D.put (keyL (shaB r)) (.lit (.int .i64 (i : Int)))) → X.grownBy Y (some A.b5) → SM w W0 A raws its dp dr ds df (dm ++ [i]) Y := by
  obtain ⟨n1, n2, n3, n4, n5, n6, n7, n8, n9, n10, n11, n12, n13, n14, n15⟩ := hA.nd
  obtain ⟨g1, g2, g3, g4, g5, g6⟩ := hA.ge
  obtain ⟨D, h1, h2, h3⟩ := h.m
  refine ⟨D, h1, ?_, fun Y hY hg => ?_⟩
  · by_cases hi : i ∈ dm
    · rw [decide_eq_true hi, (h2 i r hr).2 hi]
    · rw [decide_eq_false hi]
      cases hh : Maps.has D (keyL (shaB r)) with
      | false => rfl
      | true => exact absurd ((h2 i r hr).1 hh) hi
  · have ht := h1.tidy (Go.Maps.string_keyed Tryz.underlying9)
    have hkey : WideAt.IsKeyLit (keyL (shaB r)) := by trivial
    have ne : ∀ {g : Nat}, g ≠ A.b5 → some g ≠ some A.b5 := fun h e => h (by simpa using e)
    have inj : ∀ j s, raws[j]? = some s → j ≠ i → keyL (shaB s) ≠ keyL (shaB r) := fun j s hs hj e => hj (hF j i s r hs hr (by
      unfold keyL at e
      simp only [Lit.string.injEq] at e
      exact bytes_ext e))
    refine ⟨(hg.block _ (block_lt h.r) (ne n4)).trans h.r, (hg.block _ (block_lt h.s) (ne n8)).trans h.s, (hg.block _ (block_lt h.f) (ne n11)).trans h.f, ⟨_, by simpa using hY, fun j s hs => ?_, fun j s hj hs z => ?_⟩, fun g hg0 q1 q2 q3 q5 => (hg.block g (Nat.lt_of_lt_of_le hg0 h.z) (ne q5)).trans (h.k g hg0 q1 q2 q3 q5), Nat.le_trans h.z hg.size, h.bl.grown hg h.bl.size (fun k hk => by simp at hk; omega)⟩
    · by_cases e : j = i
      · subst e
        rw [hr] at hs
        cases hs
        rw [Maps.has_put_same ht.isMap hkey]
        simp
      · rw [Maps.has_put_other (inj j s hs e), h2 j s hs]
        simp [e]
    · by_cases e : j = i
      · subst e
        rw [hr] at hs
        cases hs
        exact Maps.atKey_put_same ht.isMap hkey _ z
      · rw [Maps.atKey_put_other (inj j s hs e)]
        have hj' : j ∈ dm := by
          rcases List.mem_append.1 hj with h | h
          · exact h
          · exact absurd (List.mem_singleton.1 h) e
        exact h3 j s hj' hs z
/-- What the parts hold at a place. -/
theorem SM.at (h : SM w W0 A raws its dp dr ds df dm X) {i : Nat} (hi : i < raws.length) : X.cell? ⟨A.b1, i, none⟩ = some (if i ∈ dr then .string (raws.getD i ⟨#[]⟩) else .string ⟨#[]⟩) ∧ X.cell? ⟨A.b3, i, none⟩ = some (if i ∈ df then .int .i64 (dp i : Int) else .int .i64 0) ∧
    X.cell? ⟨A.b2, i * 2, none⟩ = some (if i ∈ ds then .string (shaB (raws.getD i ⟨#[]⟩)) else .string ⟨#[]⟩) ∧ X.cell? ⟨A.b2, i * 2 + 1, none⟩ = some (if i ∈ ds then .int .i64 (its.getD i noIm).pl else .int .i64 0) ∧
    (∀ p, X.frozen? ⟨A.b1, p, none⟩ = false) ∧ (∀ p, X.frozen? ⟨A.b2, p, none⟩ = false) ∧ ∀ p, X.frozen? ⟨A.b3, p, none⟩ = false := by
  have a1 := fillC_at (F := rawF raws) (Z := zS) (d := dr) hi (by omega : 0 < 1)
  have a3 := fillC_at (F := farF dp) (Z := zN) (d := df) hi (by omega : 0 < 1)
  have a2 := fillC_at (F := spF raws its) (Z := zSp) (d := ds) hi (by omega : 0 < 2)
  have a2' := fillC_at (F := spF raws its) (Z := zSp) (d := ds) hi (by omega : 1 < 2)
  rw [Nat.mul_one, Nat.add_zero] at a1 a3
  rw [Nat.add_zero] at a2
  exact ⟨cellAt h.r (by rw [List.getElem?_toArray]; exact a1), cellAt h.f (by rw [List.getElem?_toArray]; exact a3), cellAt h.s (by rw [List.getElem?_toArray]; exact a2), cellAt h.s (by rw [List.getElem?_toArray]; exact a2'), fun p => Lib.frozen_of_heap h.r p, fun p => Lib.frozen_of_heap h.s p, fun p => Lib.frozen_of_heap h.f p⟩
end
end Go.Proofs.YtdbbgpcjclmelaaGreatDoor.Ch
