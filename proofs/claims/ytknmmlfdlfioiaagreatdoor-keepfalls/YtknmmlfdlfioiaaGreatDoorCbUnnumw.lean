/- The number at the beginning of bytes, walked: the program's own. -/
import Derived.Test.YtknmmlfdlfioiaaGreatDoorCbNumw
namespace Go.Proofs.YtknmmlfdlfioiaaGreatDoor.Cb
open Go.RowKit
def unV (r : Nat × Nat × Nat) : Value := .tuple #[.int .u64 (r.1 : Int), .int .i64 (r.2.1 : Int), .int .i64 (r.2.2 : Int)]
theorem and127b : ∀ b : Fin 256, bits .and .u8 (b.val : Int) 127 = ((b.val % 128 : Nat) : Int) := by decide +kernel
theorem or7 (c d : Nat) (hc : c < 144115188075855872) (hd : d < 128) : bits .or .u64 ((c : Int) * 128) (d : Int) = ((c * 128 + d : Nat) : Int) := by
  have := u64_or_nat (c * 128) d (by omega) (by omega)
  rw [show (c * 128 ||| d) = c * 128 + d by
    have h := Nat.shiftLeft_add_eq_or_of_lt (i := 7) hd c
    rw [Nat.shiftLeft_eq] at h
    exact h.symm] at this
  rw [← this]
  push_cast
  rfl
theorem drop_one' (s : ByteArray) (p : Nat) (h1 : p < s.size) : s.data.toList.drop p = s[p] :: s.data.toList.drop (p + 1) := by
  rw [List.drop_eq_getElem_cons (by rw [str_len]; exact h1)]
  rfl
theorem pow_bound (i c : Nat) (hi : i ≤ 8) (h : 127 * c + 128 ≤ 128 * 128 ^ i) : c < 100000000000000000 := by
  have := Nat.pow_le_pow_right (n := 128) (by omega) hi
  omega
theorem pow_next (i c d : Nat) (hd : d < 128) (h : 127 * c + 128 ≤ 128 * 128 ^ i) : 127 * (c * 128 + d + 1) + 128 ≤ 128 * 128 ^ (i + 1) := by
  rw [Nat.pow_succ]
  omega
theorem un_done {s : ByteArray} {i c : Nat} (hi : i < s.size) (h9 : i < 9) (hr : Cd.unnum s.data.toList = Cd.unL (9 - i) i c (s.data.toList.drop i)) (hb : s[i].toNat < 128) : Cd.unnum s.data.toList = (c * 128 + s[i].toNat % 128, i + 1, 0) := by
  rw [hr, drop_one' s i hi, show 9 - i = (8 - i) + 1 by omega, Cd.unL, if_pos hb, Nat.mod_eq_of_lt hb]
theorem un_more {s : ByteArray} {i c : Nat} (hi : i < s.size) (h9 : i < 9) (hr : Cd.unnum s.data.toList = Cd.unL (9 - i) i c (s.data.toList.drop i)) (hb : ¬ s[i].toNat < 128) : Cd.unnum s.data.toList = Cd.unL (9 - (i + 1)) (i + 1) (c * 128 + s[i].toNat % 128 + 1) (s.data.toList.drop (i + 1)) := by
  rw [hr, drop_one' s i hi, show 9 - i = (9 - (i + 1)) + 1 by omega, Cd.unL, if_neg hb]
theorem un_end {s : ByteArray} {i c : Nat} (hi : i = s.size) (h9 : i < 9) (hr : Cd.unnum s.data.toList = Cd.unL (9 - i) i c (s.data.toList.drop i)) : Cd.unnum s.data.toList = (0, 0, 4) := by
  rw [hr, List.drop_of_length_le (by rw [str_len]; omega), show 9 - i = (8 - i) + 1 by omega, Cd.unL]
theorem un_bad {s : ByteArray} {c : Nat} (hr : Cd.unnum s.data.toList = Cd.unL (9 - 9) 9 c (s.data.toList.drop 9)) : Cd.unnum s.data.toList = (0, 0, 6) := by
  rw [hr, Cd.unL]
set_option maxHeartbeats 800000 in
set_option maxRecDepth 100000 in
theorem unnum_short (s : ByteArray) (w : World) (hs : s.size ≤ 100000000) (hM : s.size < 9) :
    Calls Tryz.prog 80 #[.string s] w fun e w' => e = .returned (unV (Cd.unnum s.data.toList)) ∧ w' = w := by
  have hMi : (s.size : Int) < 9 := by omega
  have hMd : decide ((9 : Int) ≤ (s.size : Int)) = false := by simp; omega
  go_enter Tryz.func80, Tryz.ntmps80
  go_wp2
  go_loop [5, 10] (fun a t => ∃ i c : Nat, i ≤ s.size ∧ t = .int .i64 i ∧ a = .int .u64 c ∧ 127 * c + 128 ≤ 128 * 128 ^ i ∧ Cd.unnum s.data.toList = Cd.unL (9 - i) i c (s.data.toList.drop i)) (fun _ t => s.size - (intOf t).toNat)
  case atStart => exact ⟨0, 0, by omega, rfl, rfl, by simp, rfl⟩
  case round =>
    obtain ⟨i, c, hi, rfl, rfl, hc, hr⟩ := hrel
    by_cases hlt : i < s.size
    · have hid : decide ((i : Int) < (s.size : Int)) = true := by simp; omega
      have hcb := pow_bound i c (by omega) hc
      have his : i < s.size := by omega
      have b1 : (0 : Int) ≤ (i : Int) := by omega
      have b2 : (i : Int) < (s.size : Int) := by omega
      have HC := hideIt hc
      have hbl := s[i].toNat_lt
      have e1 : bits .and .u8 ((s[i].toNat : Nat) : Int) 127 = ((s[i].toNat % 128 : Nat) : Int) := and127b ⟨s[i].toNat, hbl⟩
      obtain ⟨d, hd⟩ : ∃ d, s[i].toNat % 128 = d := ⟨_, rfl⟩
      have hd1 : d < 128 := by omega
      rw [hd] at e1
      obtain ⟨v, hv⟩ : ∃ v, c * 128 + d = v := ⟨_, rfl⟩
      have e2 := or7 c d (by omega) hd1
      rw [hv] at e2
      have c1 : (c : Int) < 144115188075855872 := by omega
      have v1 : (v : Int) < 18446744073709551600 := by omega
      by_cases hb : s[i].toNat < 128
      · have hb1 : ((s[i].toNat : Nat) : Int) < 128 := by omega
        have HU := hideIt (un_done his (by omega) hr hb)
        rw [hd, hv] at HU
        clear hr hc hd hv
        go_wp2
        go_ret3
        exact ⟨by rw [HU.out]; rfl, rfl⟩
      · have hb1 : ¬ ((s[i].toNat : Nat) : Int) < 128 := by omega
        have HU := hideIt (un_more his (by omega) hr hb)
        rw [hd, hv] at HU
        have HV := hideIt hv
        clear hr hc hd hv
        go_wp2
        go_round
        case rel => exact ⟨i + 1, v + 1, by omega, by go_num, by go_num, by have := pow_next i c d hd1 HC.out; rw [HV.out] at this; exact this, HU.out⟩
        case measure => simp [intOf]; omega
    · have hid : decide ((i : Int) < (s.size : Int)) = false := by simp; omega
      obtain rfl : i = s.size := by omega
      have HU := hideIt (un_end rfl hM hr)
      clear hr hc
      go_wp2
      go_ret3
      exact ⟨by rw [HU.out]; rfl, rfl⟩
set_option maxHeartbeats 800000 in
set_option maxRecDepth 100000 in
theorem unnum_long (s : ByteArray) (w : World) (hs : s.size ≤ 100000000) (hM : 9 < s.size) :
    Calls Tryz.prog 80 #[.string s] w fun e w' => e = .returned (unV (Cd.unnum s.data.toList)) ∧ w' = w := by
  have hMi : (9 : Int) < (s.size : Int) := by omega
  go_enter Tryz.func80, Tryz.ntmps80
  go_wp2
  go_loop [5, 10] (fun a t => ∃ i c : Nat, i ≤ 9 ∧ t = .int .i64 i ∧ a = .int .u64 c ∧ 127 * c + 128 ≤ 128 * 128 ^ i ∧ Cd.unnum s.data.toList = Cd.unL (9 - i) i c (s.data.toList.drop i)) (fun _ t => 9 - (intOf t).toNat)
  case atStart => exact ⟨0, 0, by omega, rfl, rfl, by simp, rfl⟩
  case round =>
    obtain ⟨i, c, hi, rfl, rfl, hc, hr⟩ := hrel
    by_cases hlt : i < 9
    · have hid : decide ((i : Int) < 9) = true := by simp; omega
      have hcb := pow_bound i c (by omega) hc
      have his : i < s.size := by omega
      have b1 : (0 : Int) ≤ (i : Int) := by omega
      have b2 : (i : Int) < (s.size : Int) := by omega
      have HC := hideIt hc
      have hbl := s[i].toNat_lt
      have e1 : bits .and .u8 ((s[i].toNat : Nat) : Int) 127 = ((s[i].toNat % 128 : Nat) : Int) := and127b ⟨s[i].toNat, hbl⟩
      obtain ⟨d, hd⟩ : ∃ d, s[i].toNat % 128 = d := ⟨_, rfl⟩
      have hd1 : d < 128 := by omega
      rw [hd] at e1
      obtain ⟨v, hv⟩ : ∃ v, c * 128 + d = v := ⟨_, rfl⟩
      have e2 := or7 c d (by omega) hd1
      rw [hv] at e2
      have c1 : (c : Int) < 144115188075855872 := by omega
      have v1 : (v : Int) < 18446744073709551600 := by omega
      by_cases hb : s[i].toNat < 128
      · have hb1 : ((s[i].toNat : Nat) : Int) < 128 := by omega
        have HU := hideIt (un_done his (by omega) hr hb)
        rw [hd, hv] at HU
        clear hr hc hd hv
        go_wp2
        go_ret3
        exact ⟨by rw [HU.out]; rfl, rfl⟩
      · have hb1 : ¬ ((s[i].toNat : Nat) : Int) < 128 := by omega
        have HU := hideIt (un_more his (by omega) hr hb)
        rw [hd, hv] at HU
        have HV := hideIt hv
        clear hr hc hd hv
        go_wp2
        go_round
        case rel => exact ⟨i + 1, v + 1, by omega, by go_num, by go_num, by have := pow_next i c d hd1 HC.out; rw [HV.out] at this; exact this, HU.out⟩
        case measure => simp [intOf]; omega
    · have hid : decide ((i : Int) < 9) = false := by simp; omega
      obtain rfl : i = 9 := by omega
      have HU := hideIt (un_bad hr)
      clear hr hc
      go_wp2
      go_ret3
      exact ⟨by rw [HU.out]; rfl, rfl⟩
set_option maxHeartbeats 800000 in
set_option maxRecDepth 100000 in
theorem unnum_nine (s : ByteArray) (w : World) (hs : s.size ≤ 100000000) (hM : s.size = 9) :
    Calls Tryz.prog 80 #[.string s] w fun e w' => e = .returned (unV (Cd.unnum s.data.toList)) ∧ w' = w := by
  have hMi : (s.size : Int) = 9 := by omega
  go_enter Tryz.func80, Tryz.ntmps80
  go_wp2
  go_loop [5, 10] (fun a t => ∃ i c : Nat, i ≤ 9 ∧ t = .int .i64 i ∧ a = .int .u64 c ∧ 127 * c + 128 ≤ 128 * 128 ^ i ∧ Cd.unnum s.data.toList = Cd.unL (9 - i) i c (s.data.toList.drop i)) (fun _ t => 9 - (intOf t).toNat)
  case atStart => exact ⟨0, 0, by omega, rfl, rfl, by simp, rfl⟩
  case round =>
    obtain ⟨i, c, hi, rfl, rfl, hc, hr⟩ := hrel
    have h9 : (9 : Int) ≤ (s.size : Int) := by omega
    have h9n : 9 ≤ s.size := by omega
    clear hMi hM
    by_cases hlt : i < 9
    · have hid : decide ((i : Int) < 9) = true := by simp; omega
      have hcb := pow_bound i c (by omega) hc
      have his : i < s.size := by omega
      have b1 : (0 : Int) ≤ (i : Int) := by omega
      have b2 : (i : Int) < (s.size : Int) := by omega
      have HC := hideIt hc
      have hbl := s[i].toNat_lt
      have e1 : bits .and .u8 ((s[i].toNat : Nat) : Int) 127 = ((s[i].toNat % 128 : Nat) : Int) := and127b ⟨s[i].toNat, hbl⟩
      obtain ⟨d, hd⟩ : ∃ d, s[i].toNat % 128 = d := ⟨_, rfl⟩
      have hd1 : d < 128 := by omega
      rw [hd] at e1
      obtain ⟨v, hv⟩ : ∃ v, c * 128 + d = v := ⟨_, rfl⟩
      have e2 := or7 c d (by omega) hd1
      rw [hv] at e2
      have c1 : (c : Int) < 144115188075855872 := by omega
      have v1 : (v : Int) < 18446744073709551600 := by omega
      by_cases hb : s[i].toNat < 128
      · have hb1 : ((s[i].toNat : Nat) : Int) < 128 := by omega
        have HU := hideIt (un_done his (by omega) hr hb)
        rw [hd, hv] at HU
        clear hr hc hd hv
        go_wp2
        go_ret3
        exact ⟨by rw [HU.out]; rfl, rfl⟩
      · have hb1 : ¬ ((s[i].toNat : Nat) : Int) < 128 := by omega
        have HU := hideIt (un_more his (by omega) hr hb)
        rw [hd, hv] at HU
        have HV := hideIt hv
        clear hr hc hd hv
        go_wp2
        go_round
        case rel => exact ⟨i + 1, v + 1, by omega, by go_num, by go_num, by have := pow_next i c d hd1 HC.out; rw [HV.out] at this; exact this, HU.out⟩
        case measure => simp [intOf]; omega
    · have hid : decide ((i : Int) < 9) = false := by simp; omega
      obtain rfl : i = 9 := by omega
      have HU := hideIt (un_bad hr)
      clear hr hc
      go_wp2
      go_ret3
      exact ⟨by rw [HU.out]; rfl, rfl⟩
theorem unnum_any (s : ByteArray) (w : World) (hs : s.size ≤ 100000000) :
    Calls Tryz.prog 80 #[.string s] w fun e w' => e = .returned (unV (Cd.unnum s.data.toList)) ∧ w' = w := by
  by_cases h : s.size < 9
  · exact unnum_short s w hs h
  · by_cases h2 : s.size = 9
    · exact unnum_nine s w hs h2
    · exact unnum_long s w hs (by omega)
end Go.Proofs.YtknmmlfdlfioiaaGreatDoor.Cb
