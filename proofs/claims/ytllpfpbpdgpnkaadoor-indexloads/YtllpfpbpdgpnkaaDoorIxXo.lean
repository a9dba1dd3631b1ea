/- Indexes: spots sorted by their ids: walked. -/
import Derived.Test.YtllpfpbpdgpnkaaDoorIxXn
import Derived.Test.YtllpfpbpdgpnkaaDoorSrtl
namespace Go.Proofs.YtllpfpbpdgpnkaaDoor.Ix
open Cb Go.RowKit Go.Shelf
def encS (x : Sp) : List Value := [.string x.d, .int .i64 x.pl]
def cmpS (x y : Sp) : Int := Lib.compareBytes x.d.data.toList y.d.data.toList
theorem lt_is (x y : Sp) : ltOf cmpS x y = less x.d y.d := by
  unfold ltOf cmpS
  have h := (cmp_lt x.d y.d).1
  cases hh : less x.d y.d with
  | true => exact decide_eq_true (h.2 hh)
  | false => exact decide_eq_false (fun e => by rw [h.1 e] at hh; cases hh)
theorem swoS : Sort.SWO (ltOf cmpS) where
  irrefl x := by rw [lt_is]; exact less_irrefl _
  trans x y z h1 h2 := by rw [lt_is] at *; exact less_trans h1 h2
  ntrans x y z h1 h2 := by
    rw [lt_is] at *
    cases h : less x.d z.d with
    | false => rfl
    | true =>
      by_cases e : y.d = x.d
      · rw [e] at h2; rw [h2] at h; cases h
      · have h3 := less_of h1 e
        rw [less_trans h3 h] at h2
        cases h2
set_option maxHeartbeats 800000 in
set_option maxRecDepth 100000 in
theorem closure_any (x y : Sp) (W : World) : Calls Tryd.prog 39 #[.agg #[.string x.d, .int .i64 x.pl], .agg #[.string y.d, .int .i64 y.pl]] W fun e w' => e = .returned (.int .i64 (cmpS x y)) ∧ ∃ q os', w' = Sort.grow (W.drewN q) os' := by
  have HC := hideIt (Tryd.strings_Compare x.d y.d)
  have HE : Hid (cmpS x y = Lib.compareBytes x.d.data.toList y.d.data.toList) := hideIt rfl
  generalize cmpS x y = r at HE ⊢
  rw [← HE.out] at HC
  obtain ⟨W1, hW1⟩ : ∃ W1, W.alloc (.cells #[.string x.d, .int .i64 x.pl] 38) = W1 := ⟨_, rfl⟩
  obtain ⟨W2, hW2⟩ : ∃ W2, W1.alloc (.cells #[.string y.d, .int .i64 y.pl] 38) = W2 := ⟨_, rfl⟩
  have s1 : W1.heap.size = W.heap.size + 1 := by rw [← hW1]; simp
  have c0 : W2.cell? ⟨W.heap.size, 0, none⟩ = some (.string x.d) := by
    refine cellAt (cs := #[.string x.d, .int .i64 x.pl]) (t := 38) (fr := (0, 0)) ?_ rfl
    rw [← hW2, Below.heap_alloc _ _ _ (by rw [s1]; omega), ← hW1]
    exact alloc_at rfl
  have c1 : W2.cell? ⟨W.heap.size + 1, 0, none⟩ = some (.string y.d) := by
    refine cellAt (cs := #[.string y.d, .int .i64 y.pl]) (t := 38) (fr := (0, 0)) ?_ rfl
    rw [← hW2]
    exact alloc_at s1
  have HG : Hid (∃ q os', W2 = Sort.grow (W.drewN q) os') := hideIt ⟨0, _, by rw [← hW2, ← hW1, Sort.alloc_eq_grow, Sort.alloc_eq_grow, Sort.grow_grow]; rfl⟩
  clear HE
  go_enter Tryd.func39, Tryd.ntmps39
  go_wp2_with (first | (go_at_call 36; refine (HC.out _).mono ?_; rintro e w1 ⟨rfl, hw1⟩; obtain rfl := hw1.symm))
  go_ret
  exact ⟨rfl, HG.out⟩
theorem cmpLays_any (blk off size : Nat) (w : World) : CmpLays Tryd.prog 39 #[] encS 2 cmpS blk off size w := fun _ _ _ _ x y => closure_any x y _
/-- Spots that lie in a block of their own, one behind the other. -/
def RowAt (w : World) (g : Nat) (l : List Sp) : Prop := w.heap[g]? = some (.cells (spsV l).toArray 38 (0, 0))
theorem RowAt.holds {w : World} {g : Nat} {l : List Sp} (h : RowAt w g l) : Sort.HoldsK encS 2 w g 0 l.toArray := by
  intro t ht
  simp only [Sort.size_flatK, List.size_toArray] at ht
  rw [Sort.get_flatK _ _ _ _ (by simpa using ht), Nat.zero_add]
  obtain ⟨x, hx⟩ : ∃ x, l[t / 2]? = some x := ⟨l[t / 2]'(by omega), by simp⟩
  have e1 : l.toArray[t / 2]! = x := by
    obtain ⟨hi, e⟩ := List.getElem?_eq_some_iff.1 hx
    rw [getElem!_pos l.toArray (t / 2) (by simpa using hi)]
    simpa using e
  obtain ⟨a, b⟩ := spsV_at l (t / 2) x hx
  refine ⟨?_, Lib.frozen_of_heap h t⟩
  rw [e1]
  refine cellAt h ?_
  rcases (by omega : t % 2 = 0 ∨ t % 2 = 1) with h0 | h0
  · rw [h0, List.getElem?_toArray]
    rw [show t / 2 * 2 = t by omega] at a
    rw [a]; rfl
  · rw [h0, List.getElem?_toArray]
    rw [show t / 2 * 2 + 1 = t by omega] at b
    rw [b]; rfl
theorem cells_of {w : World} {g : Nat} {d : Array Sp} (hg : g < w.heap.size) (h : Sort.HoldsK encS 2 w g 0 d) : SCells w g 0 d.toList := by
  refine ⟨hg, fun i x hx => ?_⟩
  have hi : i < d.size := by have := (List.getElem?_eq_some_iff.1 hx).1; simpa using this
  have e1 : d[i]! = x := by
    rw [getElem!_pos d i hi]
    have := (List.getElem?_eq_some_iff.1 hx).2
    simpa using this
  have a := (h.cell (i := i) (c := 0) hi (by omega)).1
  have b := (h.cell (i := i) (c := 1) hi (by omega)).1
  rw [e1] at a b
  exact ⟨by simpa [encS] using a, by simpa [encS] using b⟩
theorem grownBy_sortedK {w : World} {g n : Nat} {os : Array Obj} (d : Array Sp) : w.grownBy (sortWorldK encS 2 w g 0 n d os) (some g) := by
  refine ⟨rfl, rfl, rfl, by simp [sortWorldK, Sort.putRowK, Sort.grow], fun k hk hne => ?_⟩
  unfold sortWorldK Sort.putRowK
  rw [Sort.heap_grow_old _ _ (by simpa using hk)]
  have : g ≠ k := fun e => hne (by rw [e])
  simp [Sort.putRow, Sort.mapBlock, Sort.ahead, Array.getElem?_modify, this]
/-- What sorting a row of its own leaves. -/
def SortTo (B g : Nat) (l : List Sp) (w : World) (e : Ending) (w' : World) : Prop := e = .returned (.tuple #[]) ∧ ∃ m, m.Perm l ∧ m.length = l.length ∧ WUp m ∧ SCells w' g 0 m ∧ Below B w w'
theorem sort_any (g c B : Nat) (l : List Sp) (w : World) (h : RowAt w g l) (hB : B ≤ g) (hl : l.length ≤ 1000000) :
    Calls Tryd.prog 38 #[.slice (some ⟨g, 0, none⟩) l.length c, .func (.func 39) #[] #[]] w fun e w' => SortTo B g l w e w' := by
  have hg := block_lt h
  have eg : ∀ args w, (callFunc 39 args).run Tryd.prog w = .ok (.enter 39 args) w := enters_of Tryd.func39 (by kernel_rfl) rfl
  have hcon := AnyQ.slices_SortFunc Tryd.sortS 2 Tryd.isAgg38 Tryd.sizeOf38 encS (fun _ => rfl) (fun x v hv => by simp [encS] at hv; rcases hv with rfl | rfl <;> rfl) cmpS swoS 39 #[] g 0 c l.toArray w eg (cmpLays_any g 0 _ w) h.holds hg (by simp; omega)
  change Calls Tryd.prog 38 _ _ _ at hcon
  rw [List.size_toArray] at hcon
  refine hcon.mono ?_
  rintro e w' ⟨rfl, d', n, os, hp, hs, rfl⟩
  have hsz : d'.size = l.length := by simpa using hp.1
  have hperm : d'.toList.Perm l := by
    have := hp.2.2
    rw [show d'.extract 0 l.length = d' by rw [← hsz]; simp, show l.toArray.extract 0 l.length = l.toArray by simp] at this
    simpa using this
  refine ⟨rfl, d'.toList, hperm, by simpa using hsz, ?_, ?_, ?_⟩
  · unfold WUp
    rw [List.pairwise_iff_getElem]
    intro i j hi hj hij
    have := hs i j (Nat.zero_le _) hij (by simpa [hsz] using hj)
    rw [lt_is, getElem!_pos d' j (by simpa using hj), getElem!_pos d' i (by simpa using hi)] at this
    simpa using this
  · refine cells_of ?_ ?_
    · have := (grownBy_sortedK (w := w) (g := g) (n := n) (os := os) d').size
      omega
    · unfold sortWorldK
      refine Sort.holdsK_grow _ _ _ _ _ _ _ (by simpa [Sort.putRowK] using hg) ?_
      exact Sort.holdsK_putRowK _ _ _ _ _ l.toArray _ (Sort.holdsK_ahead _ _ _ _ _ _ _ h.holds) (by simpa using hsz)
  · exact (Below.refl B w).grown (grownBy_sortedK d') (by omega) (fun k hk => by cases hk; exact hB)
end Go.Proofs.YtllpfpbpdgpnkaaDoor.Ix
