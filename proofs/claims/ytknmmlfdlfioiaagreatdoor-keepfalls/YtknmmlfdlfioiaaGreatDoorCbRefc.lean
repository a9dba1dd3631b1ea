/- The document's check of bytes, bit by bit, walked. -/
import Derived.Test.YtknmmlfdlfioiaaGreatDoorCbCheckw
namespace Go.Proofs.YtknmmlfdlfioiaaGreatDoor.Cb
open Go.RowKit
namespace Crc
def sh (b : UInt8) (k : Nat) : BitVec 32 := BitVec.ofNat 32 b.toNat <<< (24 + k)
theorem sh_top (b : UInt8) : sh b 0 = top b := rfl
theorem sh_end (b : UInt8) : sh b 8 = 0#32 := by
  unfold sh
  apply BitVec.eq_of_toNat_eq
  rw [BitVec.toNat_shiftLeft, Nat.shiftLeft_eq]
  simp
theorem sh_next (b : UInt8) (k : Nat) : sh b k <<< 1 = sh b (k + 1) := by
  unfold sh
  rw [← BitVec.shiftLeft_add, Nat.add_assoc]
theorem sh_msb (b : UInt8) (k : Nat) (h : k < 8) : (sh b k).msb = b.toNat.testBit (7 - k) := by
  unfold sh
  rw [BitVec.msb_eq_getLsbD_last, BitVec.getLsbD_shiftLeft, BitVec.getLsbD_ofNat]
  simp only [show ¬ 32 - 1 < 24 + k by omega, show 32 - 1 - (24 + k) = 7 - k by omega, show 7 - k < 32 by omega, show 32 - 1 < 32 by omega, decide_true, decide_false, Bool.not_false, Bool.true_and]
theorem bit_step (r : BitVec 32) (b : UInt8) (k : Nat) (h : k < 8) :
    bit (r ^^^ sh b k) = ((r <<< 1) ^^^ (if (r.msb ^^ b.toNat.testBit (7 - k)) = true then P else 0#32)) ^^^ sh b (k + 1) := by
  rw [bit_xor, bit, bit, sh_next, sh_msb b k h]
  cases r.msb <;> cases b.toNat.testBit (7 - k) <;> simp
  · ac_rfl
  · rw [show r <<< 1 ^^^ P ^^^ (sh b (k + 1) ^^^ P) = r <<< 1 ^^^ sh b (k + 1) ^^^ (P ^^^ P) by ac_rfl, BitVec.xor_self, BitVec.xor_zero]
end Crc
theorem and_one (b m : Nat) (hb : b < 256) : bits .and .u32 ((b : Int) / 2 ^ m) 1 = ((b / 2 ^ m % 2 : Nat) : Int) := by
  have h : b / 2 ^ m < 4294967296 := Nat.lt_of_le_of_lt (Nat.div_le_self _ _) (by omega)
  have := u32_and_nat (b / 2 ^ m) 1 h (by omega)
  rw [Nat.and_one_is_mod] at this
  rw [← this]
  push_cast
  rfl
theorem xor_bits : ∀ q p : Fin 2, bits .xor .u32 (q.val : Int) (p.val : Int) = (((q.val + p.val) % 2 : Nat) : Int) := by decide +kernel
theorem msb_val (r : BitVec 32) : r.toNat / 2147483648 = if r.msb then 1 else 0 := by
  have h := r.isLt
  rw [BitVec.msb_eq_decide]
  by_cases hc : 2 ^ (32 - 1) ≤ r.toNat
  · simp only [hc, decide_true, if_true]; omega
  · simp only [hc, decide_false]; simp; omega
theorem bit_val (b m : Nat) : b / 2 ^ m % 2 = if b.testBit m then 1 else 0 := by
  rw [Nat.testBit_eq_decide_div_mod_eq]
  by_cases hc : b / 2 ^ m % 2 = 1
  · simp [hc]
  · simp [hc]; omega
theorem in_val (r : BitVec 32) (b m : Nat) : (b / 2 ^ m % 2 + r.toNat / 2147483648) % 2 = 1 ↔ (r.msb ^^ b.testBit m) = true := by
  rw [msb_val, bit_val]
  cases r.msb <;> cases b.testBit m <;> simp
theorem shl1_val (x : BitVec 32) : (x.toNat : Int) * (2 : Int) % (4294967296 : Int) = ((x <<< 1).toNat : Int) := by
  rw [BitVec.toNat_shiftLeft, Nat.shiftLeft_eq]
  omega
theorem P_val (u : BitVec 32) : bits .xor .u32 (u.toNat : Int) (79764919 : Int) = ((u ^^^ Crc.P).toNat : Int) := b_xor u Crc.P
end Go.Proofs.YtknmmlfdlfioiaaGreatDoor.Cb
