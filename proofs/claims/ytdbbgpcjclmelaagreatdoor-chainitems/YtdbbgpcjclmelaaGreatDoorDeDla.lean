/- The document's Apply, whatever the bytes are: walked. -/
import Derived.Test.YtdbbgpcjclmelaaGreatDoorDeDlp
import Derived.Test.YtdbbgpcjclmelaaGreatDoorCbRefn
import Derived.BigQuiet
namespace Go.Proofs.YtdbbgpcjclmelaaGreatDoor.De
open Cb
open Go.RowKit
namespace Dl
theorem unL_err : ∀ (k i c : Nat) (l : List UInt8), (Cd.unL k i c l).2.2 ≠ 0 → (Cd.unL k i c l).1 = 0 ∧ (Cd.unL k i c l).2.1 = 0
  | 0, i, c, l, _ => ⟨rfl, rfl⟩
  | k + 1, i, c, [], _ => ⟨rfl, rfl⟩
  | k + 1, i, c, b :: t, h => by
    rw [Cd.unL] at h ⊢
    split
    · rename_i hb
      rw [if_pos hb] at h
      exact absurd rfl h
    · rename_i hb
      rw [if_neg hb] at h
      exact unL_err k _ _ t h
theorem unnum_k (L : List UInt8) : (Cd.unnum L).2.1 ≤ L.length := by
  by_cases h : (Cd.unnum L).2.2 = 0
  · exact (Cd.unnum_form (n := (Cd.unnum L).1) (j := (Cd.unnum L).2.1) (Prod.ext rfl (Prod.ext rfl h))).2
  · have := (unL_err 9 0 0 L h).2
    have e : (Cd.unnum L).2.1 = 0 := this
    omega
theorem unL_lt : ∀ (k i c : Nat) (l : List UInt8), 127 * c + 128 ≤ 128 * 128 ^ i → 127 * (Cd.unL k i c l).1 + 128 ≤ 128 * 128 ^ (i + k)
  | 0, i, c, l, _ => by
    have hp : 1 ≤ 128 ^ (i + 0) := Nat.one_le_pow _ _ (by omega)
    simp only [Cd.unL]
    omega
  | k + 1, i, c, [], _ => by
    have hp : 1 ≤ 128 ^ (i + (k + 1)) := Nat.one_le_pow _ _ (by omega)
    simp only [Cd.unL]
    omega
  | k + 1, i, c, b :: t, h => by
    have e1 : 128 ^ (i + 1) = 128 ^ i * 128 := Nat.pow_succ ..
    rw [Cd.unL]
    split
    · rename_i hb
      have h1 : 128 ^ (i + 1) ≤ 128 ^ (i + (k + 1)) := Nat.pow_le_pow_right (by omega) (by omega)
      simp only
      omega
    · have := unL_lt k (i + 1) (c * 128 + b.toNat % 128 + 1) t (by omega)
      rw [show i + (k + 1) = i + 1 + k by omega]
      exact this
theorem nm_lt (L : List UInt8) : (nm L).1 < 18446744073709551616 := by
  have h := unL_lt 9 0 0 L (by decide)
  have e : (nm L).1 = (Cd.unL 9 0 0 L).1 := rfl
  have e2 : 128 * 128 ^ (0 + 9) = 1180591620717411303424 := by decide
  rw [e]
  omega
theorem nm_len (L : List UInt8) : (nm L).2.1.length ≤ L.length := by
  unfold nm
  simp
end Dl
end Go.Proofs.YtdbbgpcjclmelaaGreatDoor.De
