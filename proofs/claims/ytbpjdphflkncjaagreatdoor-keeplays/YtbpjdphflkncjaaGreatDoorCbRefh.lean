/- The document's digits, walked: a digit's letter, a letter's number, bytes as digits, digits as bytes. -/
import Derived.Test.YtbpjdphflkncjaaGreatDoorCbUnhexw
import Derived.Deep.RegionHeld3
namespace Go.Proofs.YtbpjdphflkncjaaGreatDoor.Cb
open Go.RowKit
theorem wrap_small (x : Int) (h0 : 0 ≤ x) (h1 : x < 9223372036854775808) : IntKind.i64.wrap x = x := by rw [IntKind.wrap_i64]; omega
theorem tdiv_nat (b x : Nat) (c : Int) (h : (b : Int) / c = (x : Int)) : (b : Int).tdiv c = (x : Int) := by rw [Int.tdiv_eq_ediv_of_nonneg (by omega)]; exact h
theorem tmod_nat (b x : Nat) (c : Int) (h : (b : Int) % c = (x : Int)) : (b : Int).tmod c = (x : Int) := by rw [Int.tmod_eq_emod_of_nonneg (by omega)]; exact h
set_option maxHeartbeats 400000 in
theorem digit_any (n : Nat) (w : World) (hn : n < 16) :
    Calls Tryz.prog 69 #[.int .i64 (n : Int)] w fun e w' => e = .returned (.string (bs [Cd.dig n])) ∧ Below w.heap.size w w' := by
  by_cases h : n < 10
  · have h1 : (n : Int) < 10 := by omega
    have e : ((Cd.dig n).toNat : Int) = 48 + (n : Int) := by rw [Cd.dig, if_pos h, UInt8.toNat_ofNat']; omega
    have hcv := run_one (Cd.dig n) w
    rw [e] at hcv
    clear e
    go_enter Tryz.func69, Tryz.ntmps69
    go_wp2
    go_ret
    exact ⟨rfl, (Below.refl _ _).alloc (Nat.le_refl _) _⟩
  · have h1 : ¬ (n : Int) < 10 := by omega
    have h2 : (n : Int) < 16 := by omega
    have e : ((Cd.dig n).toNat : Int) = 87 + (n : Int) := by rw [Cd.dig, if_neg h, UInt8.toNat_ofNat']; omega
    have hcv := run_one (Cd.dig n) w
    rw [e] at hcv
    clear e
    go_enter Tryz.func69, Tryz.ntmps69
    go_wp2
    go_ret
    exact ⟨rfl, (Below.refl _ _).alloc (Nat.le_refl _) _⟩
set_option maxHeartbeats 400000 in
theorem value_any (b : UInt8) (w : World) :
    Calls Tryz.prog 81 #[.int .u8 (b.toNat : Int)] w fun e w' => e = .returned (.int .i64 (Cd.val b : Int)) ∧ w' = w := by
  obtain ⟨x, hx⟩ : ∃ x, b.toNat = x := ⟨_, rfl⟩
  have hl := b.toNat_lt
  rw [Cd.val, hx]
  rw [hx] at hl
  clear hx
  have l1 : (x : Int) < 256 := by omega
  by_cases h1 : 48 ≤ x ∧ x ≤ 57
  · have a1 : (48 : Int) ≤ (x : Int) := by omega
    have a2 : (x : Int) ≤ 57 := by omega
    rw [if_pos h1, show ((x - 48 : Nat) : Int) = (x : Int) - 48 by omega]
    go_enter Tryz.func81, Tryz.ntmps81
    go_wp2
    go_ret
    exact ⟨rfl, rfl⟩
  · rw [if_neg h1]
    by_cases h2 : 97 ≤ x ∧ x ≤ 102
    · have a1 : (97 : Int) ≤ (x : Int) := by omega
      have a2 : (x : Int) ≤ 102 := by omega
      have a3 : (48 : Int) ≤ (x : Int) := by omega
      have a4 : decide ((x : Int) ≤ 57) = false := decide_eq_false (by omega)
      rw [if_pos h2, show ((x - 87 : Nat) : Int) = (x : Int) - 87 by omega]
      go_enter Tryz.func81, Tryz.ntmps81
      go_wp2
      go_ret
      exact ⟨rfl, rfl⟩
    · rw [if_neg h2]
      have b1 : (decide ((48 : Int) ≤ (x : Int)) && decide ((x : Int) ≤ 57)) = false := by
        rw [Bool.and_eq_false_iff, decide_eq_false_iff_not, decide_eq_false_iff_not]; omega
      have b2 : (decide ((97 : Int) ≤ (x : Int)) && decide ((x : Int) ≤ 102)) = false := by
        rw [Bool.and_eq_false_iff, decide_eq_false_iff_not, decide_eq_false_iff_not]; omega
      clear h1 h2
      by_cases c1 : (48 : Int) ≤ (x : Int) <;> by_cases c2 : (97 : Int) ≤ (x : Int)
      all_goals simp only [c1, c2, decide_true, decide_false, Bool.true_and, Bool.false_and] at b1 b2
      all_goals go_enter Tryz.func81, Tryz.ntmps81
      all_goals go_wp2
      all_goals go_ret
      all_goals exact ⟨rfl, rfl⟩
set_option maxHeartbeats 800000 in
set_option maxRecDepth 100000 in
theorem refhex_any (s : ByteArray) (w : World) (hs : s.size ≤ 400) :
    Calls Tryz.prog 37 #[.string s] w fun e w' => e = .returned (.string (bs (Cd.hexL s.data.toList))) ∧ Below w.heap.size w w' := by
  obtain ⟨n, hn⟩ : ∃ n, s.size = n := ⟨_, rfl⟩
  have hni : (s.size : Int) = (n : Int) := by rw [hn]
  go_enter Tryz.func37, Tryz.ntmps37
  go_wp2
  go_loopw [3, 4] (fun v t wr => ∃ k : Nat, k ≤ n ∧ t = .int .i64 k ∧ (∃ u : ByteArray, v = .string u ∧ u.data.toList = Cd.hexL (s.data.toList.take k)) ∧ Below w.heap.size w wr) (fun _ t _ => n - (intOf t).toNat)
  case atStart => exact ⟨0, by omega, rfl, ⟨_, rfl, rfl⟩, Below.refl _ _⟩
  case round =>
    obtain ⟨k, hk, rfl, ⟨u, rfl, hu⟩, hb⟩ := hrel
    by_cases hlt : k < n
    · have hid : decide ((k : Int) < (n : Int)) = true := by simp; omega
      have a1 : (0 : Int) ≤ (k : Int) := by omega
      have a2 : (k : Int) < (s.size : Int) := by omega
      have a3 : k < s.size := by omega
      have hbl := s[k].toNat_lt
      obtain ⟨x, hx⟩ : ∃ x, s[k].toNat / 16 = x := ⟨_, rfl⟩
      obtain ⟨y, hy⟩ : ∃ y, s[k].toNat % 16 = y := ⟨_, rfl⟩
      have q1 : ((s[k].toNat : Nat) : Int) / 16 = (x : Int) := by omega
      have q2 : ((s[k].toNat : Nat) : Int) % 16 = (y : Int) := by omega
      have r1 := wrap_small ((s[k].toNat : Nat) : Int) (by omega) (by omega)
      have r2 := tdiv_nat s[k].toNat x 16 q1
      have r3 := tmod_nat s[k].toNat y 16 q2
      have r4 := wrap_small (x : Int) (by omega) (by omega)
      have r5 := wrap_small (y : Int) (by omega) (by omega)
      obtain ⟨d1, hd1⟩ : ∃ d, bs [Cd.dig x] = d := ⟨_, rfl⟩
      obtain ⟨d2, hd2⟩ : ∃ d, bs [Cd.dig y] = d := ⟨_, rfl⟩
      have HX := hideIt (fun w => digit_any x w (by omega))
      have HY := hideIt (fun w => digit_any y w (by omega))
      rw [hd1] at HX
      rw [hd2] at HY
      have s1 : d1.size ≤ 1 := by rw [← hd1, bs_size]; simp
      have s2 : d2.size ≤ 1 := by rw [← hd2, bs_size]; simp
      have s4 : u.size ≤ 1000 := by rw [← str_len, hu, Cd.hexL_len, List.length_take, str_len]; omega
      have s5 : ¬ 9223372036854775807 < d1.size + d2.size := by omega
      have s6 : ¬ 9223372036854775807 < u.size + (d1.size + d2.size) := by omega
      have HE : Hid ((u ++ (d1 ++ d2)).data.toList = Cd.hexL (s.data.toList.take (k + 1))) := by
        refine hideIt ?_
        rw [cat_data, cat_data, hu, ← hd1, ← hd2, bs_list, bs_list, hexL_take _ _ (by rw [str_len]; exact a3), ← hx, ← hy]
        rfl
      have HB := hideIt hb
      have HS : Hid (Below w.heap.size w wr.drew) := hideIt hb.drew
      clear hx hy hd1 hd2 hu hb
      go_wp2
      go_region_held3 (fun w' => Below w.heap.size w w') (first | (exact HS.out) | assumption | (exact below2 (by assumption) hb1)) (first | (go_at_call_of 69 (Value.int .i64 (x : Int)); refine (HX.out _).mono ?_; rintro e w1 ⟨rfl, hb1⟩) | (go_at_call_of 69 (Value.int .i64 (y : Int)); refine (HY.out _).mono ?_; rintro e w1 ⟨rfl, hb1⟩))
      all_goals go_wp2
      all_goals go_roundw
      all_goals first | exact ⟨k + 1, by omega, by go_num, ⟨_, rfl, HE.out⟩, by assumption⟩ | (simp [intOf]; omega)
    · obtain rfl : k = n := by omega
      have ht : s.data.toList.take k = s.data.toList := List.take_of_length_le (by rw [str_len]; omega)
      rw [ht] at hu
      have HE : Hid (bs (Cd.hexL s.data.toList) = u) := hideIt (by rw [← hu, bs_data])
      clear hu ht
      go_wp2
      go_ret
      exact ⟨by rw [HE.out]; rfl, hb⟩
end Go.Proofs.YtbpjdphflkncjaaGreatDoor.Cb
