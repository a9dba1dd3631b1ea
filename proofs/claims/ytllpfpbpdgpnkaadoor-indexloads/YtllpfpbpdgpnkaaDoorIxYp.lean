/- Indexes: numbers of four bytes, as plain lists. -/
import Derived.Test.YtllpfpbpdgpnkaaDoorIxXp
import Derived.Test.YtllpfpbpdgpnkaaDoorSaOf
namespace Go.Proofs.YtllpfpbpdgpnkaaDoor.Ix
open Cb Go.RowKit
def shaL (M : List UInt8) : List UInt8 := (Sa.Sha.sha M).data.toList
theorem sha_size (M : List UInt8) : (Sa.Sha.sha M).size = 32 := by
  simp [Sa.Sha.sha, Sa.Sha.out, Sa.Sha.bstr, ByteArray.size]
theorem shaL_len (M : List UInt8) : (shaL M).length = 32 := by
  rw [shaL, Array.length_toList]
  exact sha_size M
def fourL (n : Nat) : List UInt8 := [UInt8.ofNat (n / 16777216 % 256), UInt8.ofNat (n / 65536 % 256), UInt8.ofNat (n / 256 % 256), UInt8.ofNat (n % 256)]
theorem fourL_len (n : Nat) : (fourL n).length = 4 := rfl
/-- The number of some bytes, the highest first. -/
def numR (L : List UInt8) : Nat := L.foldl (fun n b => n * 256 + b.toNat) 0
theorem numR_snoc (L : List UInt8) (b : UInt8) : numR (L ++ [b]) = numR L * 256 + b.toNat := by simp [numR]
theorem numR_four (n : Nat) (h : n < 4294967296) : numR (fourL n) = n := by
  simp only [numR, fourL, List.foldl_cons, List.foldl_nil, UInt8.toNat_ofNat', Nat.reducePow]
  omega
theorem numR_lt : ∀ (L : List UInt8) (n : Nat), L.foldl (fun n b => n * 256 + b.toNat) n < (n + 1) * 256 ^ L.length
  | [], n => by simp
  | b :: r, n => by
    have ih := numR_lt r (n * 256 + b.toNat)
    have hb := b.toNat_lt
    rw [List.foldl_cons, List.length_cons]
    refine Nat.lt_of_lt_of_le ih ?_
    rw [Nat.pow_succ, Nat.mul_comm (256 ^ r.length) 256, ← Nat.mul_assoc]
    exact Nat.mul_le_mul_right _ (by omega)
theorem numR_le (L : List UInt8) (h : L.length ≤ 4) : numR L < 4294967296 := by
  have h1 := numR_lt L 0
  have h2 : 256 ^ L.length ≤ 256 ^ 4 := Nat.pow_le_pow_right (by omega) h
  unfold numR
  have e : (256 : Nat) ^ 4 = 4294967296 := by decide
  omega
end Go.Proofs.YtllpfpbpdgpnkaaDoor.Ix
