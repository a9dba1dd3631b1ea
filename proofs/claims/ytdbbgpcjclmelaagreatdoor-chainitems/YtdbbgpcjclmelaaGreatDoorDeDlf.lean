/- What is made of a text's own beginning; a text that is not too long; the waking test. Over make_any and apply_any of the text Dlt (Dle where the program has landed). -/
import Derived.Test.YtdbbgpcjclmelaaGreatDoorDeDle
namespace Go.Proofs.YtdbbgpcjclmelaaGreatDoor.De
open Cb
open Go.RowKit
namespace Dl
theorem same_app (A R Q : List UInt8) : same (A ++ R) (A ++ Q) = A.length + same R Q := by
  induction A with
  | nil => simp
  | cons a t ih =>
    rw [List.cons_append, List.cons_append, same, if_pos rfl, ih, List.length_cons]
    omega
/-- The text begins as the base does. -/
theorem tell_own (T R Q : List UInt8) (h : 16 ≤ T.length) (hs : same R Q = 0) : tell (T ++ Q) (T ++ R) 0 0 = Cd.numL (2 * T.length - 1) ++ Cd.numL 0 ++ tell (T ++ Q) (T ++ R) T.length T.length := by
  have e6 : ∀ X : List UInt8, six (T ++ X) 0 = T.take 16 := fun X => by rw [six, List.drop_zero, List.take_append_of_le_length h]
  have hb : at16 (T ++ Q) (T ++ R) 0 = some 0 := by
    rw [at16, if_pos (by rw [List.length_append]; omega), blk, blkF, if_pos (by rw [List.length_append]; omega), if_pos (by rw [e6, e6])]
  have hr : run (T ++ Q) (T ++ R) 0 0 = T.length := by
    unfold run
    rw [List.drop_append_of_le_length (by omega), List.drop_append_of_le_length (by omega), same_app, hs, List.length_drop]
    omega
  rw [tell_some (by rw [List.length_append]; omega) hb, hr]
  have e0 : putL (((T ++ R).drop 0).take (0 - 0)) = [] := by simp [putL]
  rw [e0, List.nil_append, Nat.zero_add]
theorem numL_tiny {n : Nat} (h : n < 128) : Cd.numL n = [UInt8.ofNat n] := by
  rw [Cd.numL, Cd.numR, Cd.more_small h, Nat.mod_eq_of_lt h]
  rfl
/-- What a text of 16 bytes or more is made of, where the base begins with it. -/
theorem make_self (T Q : List UInt8) (h : 16 ≤ T.length) : make (T ++ Q) T = Cd.numL (T.length + Q.length) ++ Cd.numL T.length ++ (Cd.numL (2 * T.length - 1) ++ Cd.numL 0) := by
  have := tell_own T [] Q h (by cases Q <;> rfl)
  rw [List.append_nil] at this
  rw [make, this, tell_end (by omega), List.length_append]
  simp [putL]
def wk : List UInt8 := [48, 49, 50, 51, 52, 53, 54, 55, 56, 57, 97, 98, 99, 100, 101, 102, 88, 89, 90]
theorem make_wk : make wk (wk ++ [33]) = [19, 20, 37, 0, 0, 33] := by
  have := tell_own wk [33] [] (by decide) rfl
  rw [List.append_nil] at this
  have h1 : at16 wk (wk ++ [33]) 19 = none := by decide
  have e : wk.length = 19 := by decide
  rw [e] at this
  have e1 : (wk ++ [33]).length = 20 := by decide
  have e2 : (wk ++ [33]).drop 19 = [33] := by decide
  rw [make, this, tell_none (by decide) h1, tell_end (by decide), e, e1, e2, putL, if_neg (by decide)]
  rw [numL_tiny (by omega), numL_tiny (by omega), numL_tiny (by omega), numL_tiny (by omega), numL_tiny (by decide)]
  decide
theorem tell_len (base s : List UInt8) (hb : base.length ≤ 100000000) (hs : s.length ≤ 100000000) (told i : Nat) (h1 : told ≤ i) (h2 : i ≤ s.length) : (tell base s told i).length ≤ 5 + (s.length - told) := by
  by_cases h : i < s.length
  · cases hk : at16 base s i with
    | none =>
      rw [tell_none h hk]
      exact tell_len base s hb hs told (i + 1) (by omega) (by omega)
    | some k =>
      obtain ⟨r1, r2, r3⟩ := run_le hk
      have ih := tell_len base s hb hs (i + run base s i k) (i + run base s i k) (Nat.le_refl _) r2
      have a1 := putL_len ((s.drop told).take (i - told)) (by rw [List.length_take, List.length_drop]; omega)
      have a2 := numL_four (2 * run base s i k - 1) (by omega)
      have a3 := numL_four k (by omega)
      rw [tell_some h hk]
      simp only [List.length_append, List.length_take, List.length_drop] at a1 ⊢
      omega
  · rw [tell_end h]
    have := putL_len (s.drop told) (by rw [List.length_drop]; omega)
    rw [List.length_drop] at this
    omega
  termination_by s.length - i
  decreasing_by all_goals omega
theorem make_len (base s : List UInt8) (hb : base.length ≤ 100000000) (hs : s.length ≤ 100000000) : (make base s).length ≤ 15 + s.length := by
  have := tell_len base s hb hs 0 0 (Nat.le_refl _) (Nat.zero_le _)
  have a2 := numL_four base.length (by omega)
  have a3 := numL_four s.length (by omega)
  rw [make]
  simp only [List.length_append]
  omega
end Dl
def few9 (s : ByteArray) : ByteArray := if 400 < s.size then s.extract 0 400 else s
theorem few9_size (s : ByteArray) : (few9 s).size ≤ 400 := by
  unfold few9
  split
  · rw [ByteArray.size_extract]; omega
  · omega
end Go.Proofs.YtdbbgpcjclmelaaGreatDoor.De
