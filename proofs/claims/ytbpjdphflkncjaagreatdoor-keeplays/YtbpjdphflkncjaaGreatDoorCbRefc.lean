/- The document's check of bytes, bit by bit, walked. -/
import Derived.Test.YtbpjdphflkncjaaGreatDoorCbCheckw
namespace Go.Proofs.YtbpjdphflkncjaaGreatDoor.Cb
open Go.RowKit
namespace Crc
def sh (b : UInt8) (k : Nat) : BitVec 32 := BitVec.ofNat 32 b.toNat <<< (24 + k)
theorem sh_top (b : UInt8) : sh b 0 = top b := rfl
theorem sh_end (b : UInt8) : sh b 8 = 0#32 := by
  unfold sh
  apply BitVec.eq_of_toNat_eq
  rw [BitVec.toNat_shiftLeft, Nat.shiftLeft_eq]
  simp
theorem sh_next (b : UInt8) (k : Nat) : sh b k <<< 1 = sh b (k + 1) := by
  unfold sh
  rw [← BitVec.shiftLeft_add, Nat.add_assoc]
theorem sh_msb (b : UInt8) (k : Nat) (h : k < 8) : (sh b k).msb = b.toNat.testBit (7 - k) := by
  unfold sh
  rw [BitVec.msb_eq_getLsbD_last, BitVec.getLsbD_shiftLeft, BitVec.getLsbD_ofNat]
  simp only [show ¬ 32 - 1 < 24 + k by omega, show 32 - 1 - (24 + k) = 7 - k by omega, show 7 - k < 32 by omega, show 32 - 1 < 32 by omega, decide_true, decide_false, Bool.not_false, Bool.true_and]
theorem bit_step (r : BitVec 32) (b : UInt8) (k : Nat) (h : k < 8) :
    bit (r ^^^ sh b k) = ((r <<< 1) ^^^ (if (r.msb ^^ b.toNat.testBit (7 - k)) = true then P else 0#32)) ^^^ sh b (k + 1) := by
  rw [bit_xor, bit, bit, sh_next, sh_msb b k h]
  cases r.msb <;> cases b.toNat.testBit (7 - k) <;> simp
  · ac_rfl
  · rw [show r <<< 1 ^^^ P ^^^ (sh b (k + 1) ^^^ P) = r <<< 1 ^^^ sh b (k + 1) ^^^ (P ^^^ P) by ac_rfl, BitVec.xor_self, BitVec.xor_zero]
end Crc
theorem and_one (b m : Nat) (hb : b < 256) : bits .and .u32 ((b : Int) / 2 ^ m) 1 = ((b / 2 ^ m % 2 : Nat) : Int) := by
  have h : b / 2 ^ m < 4294967296 := Nat.lt_of_le_of_lt (Nat.div_le_self _ _) (by omega)
  have := u32_and_nat (b / 2 ^ m) 1 h (by omega)
  rw [Nat.and_one_is_mod] at this
  rw [← this]
  push_cast
  rfl
theorem xor_bits : ∀ q p : Fin 2, bits .xor .u32 (q.val : Int) (p.val : Int) = (((q.val + p.val) % 2 : Nat) : Int) := by decide +kernel
theorem msb_val (r : BitVec 32) : r.toNat / 2147483648 = if r.msb then 1 else 0 := by
  have h := r.isLt
  rw [BitVec.msb_eq_decide]
  by_cases hc : 2 ^ (32 - 1) ≤ r.toNat
  · simp only [hc, decide_true, if_true]; omega
  · simp only [hc, decide_false]; simp; omega
theorem bit_val (b m : Nat) : b / 2 ^ m % 2 = if b.testBit m then 1 else 0 := by
  rw [Nat.testBit_eq_decide_div_mod_eq]
  by_cases hc : b / 2 ^ m % 2 = 1
  · simp [hc]
  · simp [hc]; omega
theorem in_val (r : BitVec 32) (b m : Nat) : (b / 2 ^ m % 2 + r.toNat / 2147483648) % 2 = 1 ↔ (r.msb ^^ b.testBit m) = true := by
  rw [msb_val, bit_val]
  cases r.msb <;> cases b.testBit m <;> simp
theorem shl1_val (x : BitVec 32) : (x.toNat : Int) * (2 : Int) % (4294967296 : Int) = ((x <<< 1).toNat : Int) := by
  rw [BitVec.toNat_shiftLeft, Nat.shiftLeft_eq]
  omega
theorem P_val (u : BitVec 32) : bits .xor .u32 (u.toNat : Int) (79764919 : Int) = ((u ^^^ Crc.P).toNat : Int) := b_xor u Crc.P
set_option maxHeartbeats 800000 in
set_option maxRecDepth 100000 in
theorem refcheck_any (s : ByteArray) (w : World) (hs : s.size ≤ 1000000000) :
    Calls Tryz.prog 36 #[.string s] w fun e w' => e = .returned (.int .u32 ((Crc.crc s.data.toList).toNat : Int)) ∧ w = w' := by
  obtain ⟨n, hn⟩ : ∃ n, s.size = n := ⟨_, rfl⟩
  have hni : (s.size : Int) = (n : Int) := by rw [hn]
  go_enter Tryz.func36, Tryz.ntmps36
  go_wp2
  go_loop [3, 4] (fun a t => ∃ (k : Nat) (r : BitVec 32), k ≤ n ∧ t = .int .i64 k ∧ a = .int .u32 (r.toNat : Int) ∧ r = Crc.run (s.data.toList.take k) 4294967295#32) (fun _ t => n - (intOf t).toNat)
  case atStart => exact ⟨0, 4294967295#32, by omega, rfl, rfl, rfl⟩
  case round =>
    obtain ⟨k, r, hk, rfl, rfl, hr⟩ := hrel
    by_cases hlt : k < n
    · have hid : decide ((k : Int) < (n : Int)) = true := by simp; omega
      have a1 : (0 : Int) ≤ (k : Int) := by omega
      have a2 : (k : Int) < (s.size : Int) := by omega
      have a3 : k < s.size := by omega
      obtain ⟨b, hb⟩ : ∃ b, s[k] = b := ⟨_, rfl⟩
      have hbl := b.toNat_lt
      have HR : Hid (Crc.feed r b = Crc.run (s.data.toList.take (k + 1)) 4294967295#32) := by
        refine hideIt ?_
        rw [List.take_succ_eq_append_getElem (by rw [str_len]; exact a3), Crc.run_append, ← hr]
        have e : s.data.toList[k]'(by rw [str_len]; exact a3) = b := hb
        rw [e]
        rfl
      clear hr
      go_wp2
      go_loop [3, 5] (fun a t => ∃ (j : Nat) (x : BitVec 32), j ≤ 8 ∧ t = .int .i64 ((j : Int) - 1) ∧ a = .int .u32 (x.toNat : Int) ∧ Crc.iter j (x ^^^ Crc.sh b (8 - j)) = Crc.feed r b) (fun _ t => (intOf t + 1).toNat)
      case atStart => exact ⟨8, r, by omega, rfl, rfl, rfl⟩
      case round =>
        obtain ⟨j, x, hj, rfl, rfl, hx⟩ := hrel
        by_cases hj0 : j = 0
        · subst hj0
          have HX : Hid (x = Crc.feed r b) := hideIt (by rw [← hx, Crc.sh_end, BitVec.xor_zero]; rfl)
          clear hx
          go_wp2
          go_round
          case rel => exact ⟨k + 1, x, by omega, by go_num, rfl, by rw [HX.out, HR.out]⟩
          case measure => simp [intOf]; omega
        · obtain ⟨m, hm⟩ : ∃ m, j = m + 1 := ⟨j - 1, by omega⟩
          have HS : Hid (Crc.iter m (((x <<< 1) ^^^ (if (x.msb ^^ b.toNat.testBit m) = true then Crc.P else 0#32)) ^^^ Crc.sh b (8 - m)) = Crc.feed r b) := by
            refine hideIt ?_
            rw [← hx, hm, Crc.iter, Crc.bit_step x b (8 - (m + 1)) (by omega), show 7 - (8 - (m + 1)) = m by omega, show 8 - (m + 1) + 1 = 8 - m by omega]
          have j1 : (j : Int) - 1 = (m : Int) := by omega
          have m1 : (m : Int) < 8 := by omega
          have m0 : (0 : Int) ≤ (m : Int) := by omega
          have e1 := and_one b.toNat m (by omega)
          have iv := in_val x b.toNat m
          obtain ⟨q, hq⟩ : ∃ q, b.toNat / 2 ^ m % 2 = q := ⟨_, rfl⟩
          obtain ⟨p, hp⟩ : ∃ p, x.toNat / 2147483648 = p := ⟨_, rfl⟩
          have xl := x.isLt
          have p1 : (x.toNat : Int) / (2147483648 : Int) = (p : Int) := by omega
          have q2 : q < 2 := by omega
          have p2 : p < 2 := by omega
          rw [hq] at e1 iv
          rw [hp] at iv
          have e3 : bits .xor .u32 (q : Int) (p : Int) = (((q + p) % 2 : Nat) : Int) := xor_bits ⟨q, q2⟩ ⟨p, p2⟩
          obtain ⟨v, hv⟩ : ∃ v, (q + p) % 2 = v := ⟨_, rfl⟩
          rw [hv] at e3 iv
          have s1 := shl1_val x
          obtain ⟨u, hu⟩ : ∃ u, x <<< 1 = u := ⟨_, rfl⟩
          rw [hu] at s1 HS
          have sP := P_val u
          by_cases hv1 : v = 1
          · have v1 : (v : Int) = 1 := by omega
            rw [if_pos (iv.1 hv1)] at HS
            obtain ⟨y, hy⟩ : ∃ y, u ^^^ Crc.P = y := ⟨_, rfl⟩
            rw [hy] at HS sP
            have HM := hideIt hm
            clear hx hm hq hp hv hu hy iv hj0 hv1
            go_wp2
            go_round
            case rel => exact ⟨m, y, by have := HM.out; omega, rfl, rfl, HS.out⟩
            case measure => have := HM.out; simp [intOf]; omega
          · have v1 : ((v : Int) == 1) = false := by simp; omega
            have v2 : ¬ (v : Int) = 1 := by omega
            rw [if_neg (fun h => hv1 (iv.2 h)), BitVec.xor_zero] at HS
            have HM := hideIt hm
            clear hx hm hq hp hv hu iv hj0 hv1 sP
            go_wp2
            go_round
            case rel => exact ⟨m, u, by have := HM.out; omega, rfl, by rw [s1], HS.out⟩
            case measure => have := HM.out; simp [intOf]; omega
    · obtain rfl : k = n := by omega
      have htk : s.data.toList.take k = s.data.toList := List.take_of_length_le (by rw [str_len]; omega)
      rw [htk] at hr
      have rl := r.isLt
      have en : (4294967295 : Int) - (r.toNat : Int) = ((~~~r).toNat : Int) := by rw [BitVec.toNat_not]; omega
      have HE : Hid (~~~r = Crc.crc s.data.toList) := hideIt (by rw [hr]; rfl)
      rw [HE.out] at en
      clear hr htk
      go_wp2
      go_ret
      exact ⟨rfl, rfl⟩
end Go.Proofs.YtbpjdphflkncjaaGreatDoor.Cb
