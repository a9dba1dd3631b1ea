/- Rows of 32 bit numbers in memory; sums and counts of one pass of the sorting. -/
import Derived.Test.YtbmhhlkjgnijgaaGreatDoorLdSrt
import Derived.Test.YtbmhhlkjgnijgaaGreatDoorCbRefm
import Derived.Deep.RegionHeld3
import Derived.Lib.AppendStr
namespace Go.Proofs.YtbmhhlkjgnijgaaGreatDoor.Ld
open Cb
open Go.RowKit
/-- A row of numbers, given place by place. -/
def rowI (n : Nat) (f : Nat → Nat) : Array Value := ((List.range n).map fun i => Value.int .i32 (f i : Int)).toArray
def up (f : Nat → Nat) (i v : Nat) : Nat → Nat := fun j => if j = i then v else f j
theorem rowI_at (n : Nat) (f : Nat → Nat) (j : Nat) (h : j < n) : (rowI n f)[j]? = some (.int .i32 (f j : Int)) := by simp [rowI, h]
theorem rowI_size (n : Nat) (f : Nat → Nat) : (rowI n f).size = n := by simp [rowI]
theorem rowI_set (n : Nat) (f : Nat → Nat) (i v : Nat) : (rowI n f).setIfInBounds i (.int .i32 (v : Int)) = rowI n (up f i v) := by
  apply Array.ext_getElem?
  intro j
  rw [Array.getElem?_setIfInBounds]
  by_cases hj : j < n
  · rw [rowI_at _ _ _ hj, rowI_at _ _ _ hj, rowI_size]
    by_cases e : i = j
    · subst e; simp [up, hj]
    · rw [if_neg e, up, if_neg (by omega)]
  · have e1 : (rowI n f)[j]? = none := Array.getElem?_eq_none (by rw [rowI_size]; omega)
    have e2 : (rowI n (up f i v))[j]? = none := Array.getElem?_eq_none (by rw [rowI_size]; omega)
    rw [e1, e2, rowI_size]
    split
    · rw [if_neg (by omega)]
    · rfl
theorem rowI_congr {n : Nat} {f g : Nat → Nat} (h : ∀ i, i < n → f i = g i) : rowI n f = rowI n g := by
  unfold rowI
  congr 1
  apply List.map_congr_left
  intro i hi
  rw [h i (by simpa using hi)]
theorem row_setI {w : World} {g n i : Nat} {f : Nat → Nat} {t : TypeId} (v : Nat) (h : w.heap[g]? = some (.cells (rowI n f) t (0, 0))) :
    (w.setCell ⟨g, i, none⟩ (.int .i32 (v : Int))).heap[g]? = some (.cells (rowI n (up f i v)) t (0, 0)) := by
  rw [heap_setCell_same w g i _ t _ h, rowI_set]
theorem cellI {w : World} {g n j : Nat} {f : Nat → Nat} {t : TypeId} (h : w.heap[g]? = some (.cells (rowI n f) t (0, 0))) (hj : j < n) : w.cell? ⟨g, j, none⟩ = some (.int .i32 (f j : Int)) := by
  rw [cell_of_row _ _ j _ _ _ h, rowI_at _ _ _ hj]
theorem frozI {w : World} {g n j : Nat} {f : Nat → Nat} {t : TypeId} (h : w.heap[g]? = some (.cells (rowI n f) t (0, 0))) : w.frozen? ⟨g, j, none⟩ = false := by simp [World.frozen?, h]
theorem rowI_zeros : rowI 257 (fun _ => 0) = (List.replicate 257 (Value.int .i32 0)).toArray := by
  apply Array.ext'
  rw [rowI]
  simp only [List.map_const']
  rw [List.length_range]
  rfl
theorem infoI : (Tryz.prog.info? 21).map (fun i => (i.zero, i.size, i.bytes)) = some (some (.int .i32 0), 1, 4) := by kernel_rfl
theorem made_ints (n : Nat) : madeCells (Value.int .i32 0).cells n = rowI n (fun _ => 0) := by
  apply Array.ext_getElem?
  intro k
  by_cases h : k < n
  · rw [rowI_at _ _ _ h]
    have : k % 1 = 0 := by omega
    simp [madeCells, h, Value.cells, this]
  · rw [Array.getElem?_eq_none (by simp [size_madeCells]; omega), Array.getElem?_eq_none (by rw [rowI_size]; omega)]
theorem run_make_ints (k : IntKind) (n : Nat) (hn : n ≤ 70368744177664) (w : World) :
    (Instr.makeSlice 92 (.int k (n : Int)) (.int k (n : Int))).run Tryz.prog w = .ok (.slice (some ⟨w.heap.size, 0, none⟩) n n) (w.alloc (.cells (rowI n (fun _ => 0)) 21)) := by
  obtain ⟨i, hi, hz, hs, hb⟩ := info_parts infoI
  have := run_make (P := Tryz.prog) w 92 21 i (.int .i32 0) Tryz.underlying92 hi hz k k (n : Int) (n : Int) (by omega) (Int.le_refl _) (by rw [hb]; omega) (by omega)
  rw [this, hs, Int.toNat_natCast, Nat.mul_one, made_ints]
namespace Lz
/-- How many of the first i have each byte; told one place behind. -/
def cntF (f : Nat → Nat) (l : List Nat) (i : Nat) : Nat → Nat
  | 0 => 0
  | b + 1 => (eqs f (l.take i) b).length
theorem eqs_take {f : Nat → Nat} {l : List Nat} {i x : Nat} (h : l[i]? = some x) (b : Nat) : (eqs f (l.take (i + 1)) b).length = (eqs f (l.take i) b).length + if f x = b then 1 else 0 := by
  obtain ⟨hi, hx⟩ := List.getElem?_eq_some_iff.1 h
  rw [List.take_succ_eq_append_getElem hi, eqs, List.filter_append, List.length_append, ← eqs, hx]
  by_cases e : f x = b <;> simp [e]
theorem cnt_zero (f : Nat → Nat) (l : List Nat) : cntF f l 0 = fun _ => 0 := by
  funext b
  cases b <;> simp [cntF, eqs]
theorem cnt_next {f : Nat → Nat} {l : List Nat} {i x : Nat} (h : l[i]? = some x) : cntF f l (i + 1) = up (cntF f l i) (f x + 1) (cntF f l i (f x + 1) + 1) := by
  funext b
  unfold up
  cases b with
  | zero => rw [if_neg (by omega)]; rfl
  | succ b =>
    have := eqs_take (f := f) h b
    by_cases e : b + 1 = f x + 1
    · rw [if_pos e, e]; simp only [cntF]; rw [show f x = b by omega] at this ⊢; simpa using this
    · rw [if_neg e]; simp only [cntF]; rw [this, if_neg (by omega), Nat.add_zero]
def sumF (f : Nat → Nat) (l : List Nat) (i j : Nat) : Nat := if j < i then (upto f l j).length else cntF f l l.length j
theorem sum_one (f : Nat → Nat) (l : List Nat) : sumF f l 1 = cntF f l l.length := by
  funext j
  unfold sumF
  by_cases h : j < 1
  · rw [if_pos h, show j = 0 by omega]; simp [upto, cntF]
  · rw [if_neg h]
theorem sum_next (f : Nat → Nat) (l : List Nat) (i : Nat) : sumF f l (i + 1 + 1) = up (sumF f l (i + 1)) (i + 1) (sumF f l (i + 1) (i + 1) + sumF f l (i + 1) i) := by
  funext j
  unfold up
  by_cases e : j = i + 1
  · subst e
    rw [if_pos rfl, sumF, if_pos (by omega), sumF, if_neg (by omega), sumF, if_pos (by omega), upto_succ, List.length_append, cntF, List.take_length]
    omega
  · rw [if_neg e, sumF, sumF]
    by_cases h : j < i + 1
    · rw [if_pos (by omega), if_pos h]
    · rw [if_neg (by omega), if_neg h]
def begF (f : Nat → Nat) (l : List Nat) (i b : Nat) : Nat := (upto f l b).length + (eqs f (l.take i) b).length
theorem beg_zero (f : Nat → Nat) (l : List Nat) {j : Nat} (h : j < 257) : sumF f l 257 j = begF f l 0 j := by
  rw [sumF, if_pos h, begF]; simp [eqs]
theorem beg_next {f : Nat → Nat} {l : List Nat} {i x : Nat} (h : l[i]? = some x) : begF f l (i + 1) = up (begF f l i) (f x) (begF f l i (f x) + 1) := by
  funext b
  have := eqs_take (f := f) h b
  unfold up begF
  by_cases e : b = f x
  · rw [if_pos e, this, if_pos e.symm, e]; omega
  · rw [if_neg e, this, if_neg (by omega), Nat.add_zero]
theorem beg_pos (f : Nat → Nat) (l : List Nat) (i x : Nat) : begF f l i (f x) = pos f l i x := rfl
theorem upto_le (f : Nat → Nat) (l : List Nat) (n : Nat) : (upto f l n).length ≤ l.length := by
  rw [(upto_perm f l n).length_eq]; exact List.length_filter_le _ _
theorem eqs_le (f : Nat → Nat) (l : List Nat) (i b : Nat) : (eqs f (l.take i) b).length ≤ l.length := by
  refine Nat.le_trans (List.length_filter_le _ _) ?_
  rw [List.length_take]; omega
theorem cnt_le (f : Nat → Nat) (l : List Nat) (i b : Nat) : cntF f l i b ≤ l.length := by
  cases b with
  | zero => simp [cntF]
  | succ b => exact eqs_le f l i b
theorem sum_le (f : Nat → Nat) (l : List Nat) (i b : Nat) : sumF f l i b ≤ l.length := by
  unfold sumF
  split
  · exact upto_le f l b
  · exact cnt_le f l _ b
/-- What lies sorted already. -/
def Laid (f : Nat → Nat) (l : List Nat) (i : Nat) (sf : Nat → Nat) : Prop := ∀ q x, q < i → l[q]? = some x → sf (pos f l q x) = x
theorem laid_next {f : Nat → Nat} {l : List Nat} {i x : Nat} {sf : Nat → Nat} (hf : ∀ x, f x < 256) (h : Laid f l i sf) (hx : l[i]? = some x) : Laid f l (i + 1) (up sf (pos f l i x) x) := by
  intro q y hq hy
  unfold up
  by_cases e : pos f l q y = pos f l i x
  · rw [if_pos e]
    have h1 := pass_pos f l hf q y hy
    have h2 := pass_pos f l hf i x hx
    rw [e, h2] at h1
    simpa using h1
  · rw [if_neg e]
    refine h q y ?_ hy
    rcases Nat.lt_or_ge q i with h3 | h3
    · exact h3
    · have : q = i := by omega
      subst this
      rw [hx] at hy; simp at hy; subst hy; exact absurd rfl e
theorem nodup_inj {l : List Nat} (h : l.Nodup) {i j : Nat} (hi : i < l.length) (hj : j < l.length) (e : l[i] = l[j]) : i = j := by
  have hp := List.pairwise_iff_getElem.1 h
  rcases Nat.lt_trichotomy i j with h1 | h1 | h1
  · exact absurd e (hp i j hi hj h1)
  · exact h1
  · exact absurd e.symm (hp j i hj hi h1)
theorem laid_end {f : Nat → Nat} {l : List Nat} {sf : Nat → Nat} (hf : ∀ x, f x < 256) (hn : l.Nodup) (h : Laid f l l.length sf) (p : Nat) (hp : p < l.length) : sf p = (pass f l).getD p 0 := by
  have hpl : p < (pass f l).length := by rw [pass_len f l hf]; exact hp
  have hm : (pass f l)[p] ∈ l := (pass_perm f l hf).mem_iff.1 (List.getElem_mem hpl)
  obtain ⟨q, hq⟩ := List.mem_iff_getElem?.1 hm
  have h1 := pass_pos f l hf q _ hq
  obtain ⟨h2, h3⟩ := List.getElem?_eq_some_iff.1 h1
  have nd : (pass f l).Nodup := (pass_perm f l hf).nodup_iff.2 hn
  have e : pos f l q (pass f l)[p] = p := nodup_inj nd h2 hpl h3
  have hql : q < l.length := (List.getElem?_eq_some_iff.1 hq).1
  have := h q _ hql hq
  rw [e] at this
  rw [this]
  simp [List.getD, hpl]
theorem pos_lt {f : Nat → Nat} {l : List Nat} {i x : Nat} (hf : ∀ x, f x < 256) (h : l[i]? = some x) : pos f l i x < l.length := by
  have := (List.getElem?_eq_some_iff.1 (pass_pos f l hf i x h)).1
  rwa [pass_len f l hf] at this
end Lz
end Go.Proofs.YtbmhhlkjgnijgaaGreatDoor.Ld
