/- The check of bytes as plain words of 32 bits: bit by bit and four bits at once; one byte that is another one makes it another one. -/
import Derived.Test.YtknmmlfdlfioiaaGreatDoorCbFew
import Derived.Laws.BitsAllLaws
namespace Go.Proofs.YtknmmlfdlfioiaaGreatDoor.Cb
namespace Crc
def P : BitVec 32 := 79764919#32
def bit (c : BitVec 32) : BitVec 32 := (c <<< 1) ^^^ (if c.msb then P else 0#32)
def bits4 (c : BitVec 32) : BitVec 32 := bit (bit (bit (bit c)))
def top (b : UInt8) : BitVec 32 := BitVec.ofNat 32 b.toNat <<< 24
def feed (r : BitVec 32) (b : UInt8) : BitVec 32 := bits4 (bits4 (r ^^^ top b))
def run (l : List UInt8) (r : BitVec 32) : BitVec 32 := l.foldl feed r
def crc (l : List UInt8) : BitVec 32 := ~~~ (run l 4294967295#32)
def tab : List Nat := [0, 79764919, 159529838, 222504665, 319059676, 398814059, 445009330, 507990021, 638119352, 583659535, 797628118, 726387553, 890018660, 835552979, 1015980042, 944750013]
def word (k : Nat) : BitVec 32 := BitVec.ofNat 32 (tab.getD k 0)
theorem bit_xor (a b : BitVec 32) : bit (a ^^^ b) = bit a ^^^ bit b := by
  unfold bit
  rw [BitVec.shiftLeft_xor_distrib, BitVec.msb_xor]
  cases a.msb <;> cases b.msb <;> simp
  · ac_rfl
  · ac_rfl
  · rw [show a <<< 1 ^^^ P ^^^ (b <<< 1 ^^^ P) = a <<< 1 ^^^ b <<< 1 ^^^ (P ^^^ P) by ac_rfl, BitVec.xor_self, BitVec.xor_zero]
theorem bits4_xor (a b : BitVec 32) : bits4 (a ^^^ b) = bits4 a ^^^ bits4 b := by simp only [bits4, bit_xor]
theorem bit_low (c : BitVec 32) (h : c.msb = false) : bit c = c <<< 1 := by simp [bit, h]
theorem bits4_high : ∀ k : Fin 16, bits4 (BitVec.ofNat 32 k.val <<< 28) = word k.val := by decide
theorem bits4_low (c : BitVec 32) (h : c >>> 28 = 0#32) : bits4 c = c <<< 4 := by
  have hb : ∀ i, 28 ≤ i → i < 32 → c.getLsbD i = false := by
    intro i h1 h2
    have := congrArg (fun x => x.getLsbD (i - 28)) h
    simpa [show 28 + (i - 28) = i by omega] using this
  have m0 : c.msb = false := by rw [BitVec.msb_eq_getLsbD_last]; exact hb 31 (by omega) (by omega)
  have m1 : (c <<< 1).msb = false := by rw [BitVec.msb_eq_getLsbD_last]; simp; exact hb 30 (by omega) (by omega)
  have m2 : (c <<< 2).msb = false := by rw [BitVec.msb_eq_getLsbD_last]; simp; exact hb 29 (by omega) (by omega)
  have m3 : (c <<< 3).msb = false := by rw [BitVec.msb_eq_getLsbD_last]; simp; exact hb 28 (by omega) (by omega)
  rw [bits4, bit_low c m0, bit_low _ m1, ← BitVec.shiftLeft_add, bit_low _ m2, ← BitVec.shiftLeft_add, bit_low _ m3, ← BitVec.shiftLeft_add]
theorem parts (c : BitVec 32) : ((c >>> 28) <<< 28) ^^^ (c &&& 268435455#32) = c := by
  apply BitVec.eq_of_getLsbD_eq
  intro i hi
  have hm : (268435455#32).getLsbD i = decide (i < 28) := by
    have : ∀ j : Fin 32, (268435455#32).getLsbD j.val = decide (j.val < 28) := by decide
    exact this ⟨i, hi⟩
  simp only [BitVec.getLsbD_xor, BitVec.getLsbD_shiftLeft, BitVec.getLsbD_ushiftRight, BitVec.getLsbD_and, hm, hi, decide_true, Bool.true_and]
  by_cases h : i < 28
  · simp [h]
  · simp [h, show 28 + (i - 28) = i by omega]
theorem low_shr (c : BitVec 32) : (c &&& 268435455#32) >>> 28 = 0#32 := by
  apply BitVec.eq_of_getLsbD_eq
  intro i hi
  have hm : (268435455#32).getLsbD (28 + i) = false := by
    have : ∀ j : Fin 32, (268435455#32).getLsbD (28 + j.val) = false := by decide
    exact this ⟨i, hi⟩
  simp [BitVec.getLsbD_and, hm]
theorem low_shl (c : BitVec 32) : (c &&& 268435455#32) <<< 4 = c <<< 4 := by
  apply BitVec.eq_of_getLsbD_eq
  intro i hi
  simp only [BitVec.getLsbD_shiftLeft, BitVec.getLsbD_and]
  by_cases h : i < 4
  · simp [h]
  · have hm : (268435455#32).getLsbD (i - 4) = true := by
      have : ∀ j : Fin 32, j.val < 28 → (268435455#32).getLsbD j.val = true := by decide
      exact this ⟨i - 4, by omega⟩ (by simp; omega)
    simp [hm]
theorem shr_lt (c : BitVec 32) : (c >>> 28).toNat < 16 := by
  rw [BitVec.toNat_ushiftRight, Nat.shiftRight_eq_div_pow]
  have := c.isLt
  omega
/-- Four bits at once. -/
theorem bits4_eq (c : BitVec 32) : bits4 c = (c <<< 4) ^^^ word (c >>> 28).toNat := by
  have h1 := bits4_high ⟨(c >>> 28).toNat, shr_lt c⟩
  have h2 : BitVec.ofNat 32 (c >>> 28).toNat = c >>> 28 := by
    apply BitVec.eq_of_toNat_eq
    rw [BitVec.toNat_ofNat, Nat.mod_eq_of_lt (c >>> 28).isLt]
  simp only [h2] at h1
  have h3 : bits4 c = bits4 (((c >>> 28) <<< 28) ^^^ (c &&& 268435455#32)) := by rw [parts]
  rw [h3, bits4_xor, h1, bits4_low _ (low_shr c), low_shl, BitVec.xor_comm]
theorem bit_lsb (c : BitVec 32) : (bit c).getLsbD 0 = c.msb := by
  unfold bit
  cases h : c.msb
  · simp
  · simp only [if_true, BitVec.getLsbD_xor]
    have : P.getLsbD 0 = true := by decide
    simp [this]
theorem bit_inj {a b : BitVec 32} (h : bit a = bit b) : a = b := by
  have hm : a.msb = b.msb := by rw [← bit_lsb, ← bit_lsb, h]
  have hs : a <<< 1 = b <<< 1 := by
    unfold bit at h
    rw [hm] at h
    have := congrArg (fun x => x ^^^ (if b.msb then P else 0#32)) h
    simpa [BitVec.xor_assoc] using this
  apply BitVec.eq_of_getLsbD_eq
  intro i hi
  by_cases h31 : i = 31
  · subst h31
    rw [BitVec.msb_eq_getLsbD_last, BitVec.msb_eq_getLsbD_last] at hm
    exact hm
  · have e : (a <<< 1).getLsbD (i + 1) = (b <<< 1).getLsbD (i + 1) := by rw [hs]
    rw [BitVec.getLsbD_shiftLeft, BitVec.getLsbD_shiftLeft] at e
    simp only [show i + 1 < 32 by omega, show ¬ i + 1 < 1 by omega, decide_true, decide_false, Bool.not_false, Bool.true_and, Nat.add_sub_cancel] at e
    exact e
theorem bits4_inj {a b : BitVec 32} (h : bits4 a = bits4 b) : a = b := bit_inj (bit_inj (bit_inj (bit_inj h)))
theorem xor_left_inj {r a b : BitVec 32} (h : r ^^^ a = r ^^^ b) : a = b := by
  have := congrArg (fun x => r ^^^ x) h
  simpa [← BitVec.xor_assoc] using this
theorem feed_inj_r {r s : BitVec 32} {b : UInt8} (h : feed r b = feed s b) : r = s := by
  have h1 := bits4_inj (bits4_inj h)
  rw [BitVec.xor_comm r, BitVec.xor_comm s] at h1
  exact xor_left_inj h1
theorem top_inj {a b : UInt8} (h : top a = top b) : a = b := by
  have ha := a.toNat_lt
  have hb := b.toNat_lt
  have := congrArg BitVec.toNat h
  simp only [top, BitVec.toNat_shiftLeft, BitVec.toNat_ofNat, Nat.shiftLeft_eq] at this
  exact UInt8.toNat_inj.1 (by omega)
theorem feed_inj_b {r : BitVec 32} {a b : UInt8} (h : feed r a = feed r b) : a = b := top_inj (xor_left_inj (bits4_inj (bits4_inj h)))
theorem run_inj : ∀ (l : List UInt8) (r s : BitVec 32), run l r = run l s → r = s
  | [], _, _, h => h
  | _ :: t, _, _, h => feed_inj_r (run_inj t _ _ h)
theorem run_append (a b : List UInt8) (r : BitVec 32) : run (a ++ b) r = run b (run a r) := List.foldl_append
/-- One byte that is another one makes the check another one. -/
theorem crc_other (p t : List UInt8) (a b : UInt8) (h : a ≠ b) : crc (p ++ a :: t) ≠ crc (p ++ b :: t) := by
  intro e
  have e1 : run (p ++ a :: t) 4294967295#32 = run (p ++ b :: t) 4294967295#32 := by
    have := congrArg (fun x => ~~~ x) e
    simpa [crc] using this
  rw [run_append, run_append] at e1
  exact h (feed_inj_b (run_inj t _ _ e1))
/-! The document's way, bit by bit. -/
def iter : Nat → BitVec 32 → BitVec 32
  | 0, c => c
  | k + 1, c => iter k (bit c)
theorem feed_iter (r : BitVec 32) (b : UInt8) : feed r b = iter 8 (r ^^^ top b) := rfl
end Crc
end Go.Proofs.YtknmmlfdlfioiaaGreatDoor.Cb
