/- The document's bytes of a number, walked. -/
import Derived.Test.YtknmmlfdlfioiaaGreatDoorCbRefn
namespace Go.Proofs.YtknmmlfdlfioiaaGreatDoor.Cb
open Go.RowKit
structure RnA (n k p f : Nat) : Prop where
  fr : f = Cd.F k
  sz : p = 128 ^ (k + 1) % 18446744073709551616
  le : f ≤ n
theorem RnA.next {n k p f q : Nat} (h : RnA n k p f) (hk : k < 9) (hn : ¬ n - f < p) (hq : p * 128 % 18446744073709551616 = q) : RnA n (k + 1) q (f + p) := by
  have hp : p = 128 ^ (k + 1) := by rw [h.sz]; exact Nat.mod_eq_of_lt (by have := (Cd.F_small ⟨k + 1, by omega⟩).2; simp at this; omega)
  have h1 := h.le
  refine ⟨?_, ?_, by omega⟩
  · rw [h.fr, hp]; rfl
  · rw [← hq, hp, ← Nat.pow_succ]
/-- What is made yet, backwards, and what is left: A ++ .. = all. -/
def left (k i c : Nat) : List UInt8 := if i = 0 then UInt8.ofNat (c % 128) :: Cd.dlm k (c / 128) else Cd.dlm (k + 1 - i) c
theorem left_next (k i c : Nat) (h : i < k + 1) : left k i c = UInt8.ofNat (if 0 < i then c % 128 + 128 else c % 128) :: left k (i + 1) (c / 128) := by
  unfold left
  by_cases h0 : i = 0
  · subst h0; simp
  · rw [if_neg h0, if_pos (show 0 < i by omega), if_neg (show ¬ i + 1 = 0 by omega), show k + 1 - i = (k + 1 - (i + 1)) + 1 by omega, Cd.dlm, Nat.add_comm]
theorem left_end (k c : Nat) : left k (k + 1) c = [] := by
  unfold left
  rw [if_neg (by omega), Nat.sub_self, Cd.dlm]
structure RnB (n k i c : Nat) (u : ByteArray) : Prop where
  tells : Cd.numR n = u.data.toList.reverse ++ left k i c
  len : u.size = i
theorem RnB.next {n k i c : Nat} {u : ByteArray} {x : UInt8} (h : RnB n k i c u) (hi : i < k + 1) (hx : UInt8.ofNat (if 0 < i then c % 128 + 128 else c % 128) = x) : RnB n k (i + 1) (c / 128) (bs [x] ++ u) := by
  constructor
  · rw [h.tells, left_next k i c hi, hx, cat_data, bs_list]; simp
  · rw [← str_len, cat_data, bs_list, List.length_append, str_len, h.len]; simp; omega
theorem RnB.fin {n k c : Nat} {u : ByteArray} (h : RnB n k (k + 1) c u) : bs (Cd.numL n) = u := by
  rw [Cd.numL, h.tells, left_end, List.append_nil, List.reverse_reverse, bs_data]
end Go.Proofs.YtknmmlfdlfioiaaGreatDoor.Cb
