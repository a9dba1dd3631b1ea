/- The document's numbers, walked: a number's bytes, and the number at the beginning of bytes. -/
import Derived.Test.YtknmmlfdlfioiaaGreatDoorCbUnnumw
namespace Go.Proofs.YtknmmlfdlfioiaaGreatDoor.Cb
open Go.RowKit
namespace Cd
def F : Nat → Nat
  | 0 => 0
  | k + 1 => F k + 128 ^ (k + 1)
theorem F_succ : ∀ k, F (k + 1) = 128 * (1 + F k)
  | 0 => rfl
  | k + 1 => by
    have h := F_succ k
    have e : F (k + 1) = F k + 128 ^ (k + 1) := rfl
    show F (k + 1) + 128 ^ (k + 1 + 1) = 128 * (1 + F (k + 1))
    rw [Nat.pow_succ 128 (k + 1)]
    omega
theorem F_small : ∀ k : Fin 10, F k.val ≤ 9295997013522923648 ∧ 128 ^ k.val ≤ 9223372036854775808 := by decide
theorem F_mod (k : Nat) : F k % 128 = 0 := by
  cases k with
  | zero => rfl
  | succ k => rw [F_succ]; omega
def dlm : Nat → Nat → List UInt8
  | 0, _ => []
  | k + 1, r => UInt8.ofNat (128 + r % 128) :: dlm k (r / 128)
theorem more_F : ∀ k r, r < 128 ^ (k + 1) → more (r + F k) = dlm k (r / 128)
  | 0, r, h => by rw [F, more_small (by omega), dlm]
  | k + 1, r, h => by
    have h1 := F_succ k
    have h2 := F_mod k
    rw [Nat.pow_succ] at h
    have ih := more_F k (r / 128) (by omega)
    rw [more_big (by omega), show (r + F (k + 1)) / 128 - 1 = r / 128 + F k by omega, ih, dlm]
    congr 3
    omega
theorem numR_F (k r : Nat) (h : r < 128 ^ (k + 1)) : numR (r + F k) = UInt8.ofNat (r % 128) :: dlm k (r / 128) := by
  have h2 := F_mod k
  rw [numR, more_F k r h, show (r + F k) % 128 = r % 128 by omega]
end Cd
structure RunL (s : ByteArray) (i r f p c : Nat) : Prop where
  fr : f = Cd.F i
  sz : p = 128 ^ (i + 1) % 18446744073709551616
  eq : r * 128 + f = c * 128
  bd : 127 * c + 128 ≤ 128 * 128 ^ i
  tells : Cd.unnum s.data.toList = Cd.unL (9 - i) i c (s.data.toList.drop i)
theorem RunL.next {s : ByteArray} {i r f p c q : Nat} (h : RunL s i r f p c) (his : i < s.size) (h9 : i < 9) (hb : ¬ s[i].toNat < 128) (hq : p * 128 % 18446744073709551616 = q) : RunL s (i + 1) (r * 128 + s[i].toNat % 128) (f + p) q (c * 128 + s[i].toNat % 128 + 1) := by
  have hp : p = 128 ^ (i + 1) := by rw [h.sz]; exact Nat.mod_eq_of_lt (by have := (Cd.F_small ⟨i + 1, by omega⟩).2; simp at this; omega)
  have h1 := Cd.F_succ i
  have h2 := h.eq
  have h3 := h.fr
  have h4 : f + p = Cd.F (i + 1) := by rw [h3, hp]; rfl
  refine ⟨h4, by rw [← hq, hp, ← Nat.pow_succ], by omega, pow_next i c _ (by omega) h.bd, un_more his h9 h.tells hb⟩
end Go.Proofs.YtknmmlfdlfioiaaGreatDoor.Cb
