/- The law of most bytes, walked. -/
import Derived.Test.YtmohnlebkppgfaaLdAwk4
namespace Go.Proofs.Ytmohnlebkppgfaa.Ld
open Cb
open Go.RowKit
theorem i64_and3 (n : Int) : bits .and .i64 n 3 = n % 4 := by
  have h3 : (BitVec.ofInt 64 3).toNat = 2 ^ 2 - 1 := by decide
  have key : (BitVec.ofInt 64 n &&& BitVec.ofInt 64 3).toNat = (n % ((2 ^ 64 : Nat) : Int)).toNat % 2 ^ 2 := by
    rw [BitVec.toNat_and, BitVec.toNat_ofInt, h3, Nat.and_two_pow_sub_one_eq_mod]
  show IntKind.i64.wrap ((BitVec.ofInt 64 n &&& BitVec.ofInt 64 3).toNat : Nat) = n % 4
  rw [key, IntKind.wrap_i64]
  omega
theorem i64_and7 (n : Int) : bits .and .i64 n 7 = n % 8 := by
  have h3 : (BitVec.ofInt 64 7).toNat = 2 ^ 3 - 1 := by decide
  have key : (BitVec.ofInt 64 n &&& BitVec.ofInt 64 7).toNat = (n % ((2 ^ 64 : Nat) : Int)).toNat % 2 ^ 3 := by
    rw [BitVec.toNat_and, BitVec.toNat_ofInt, h3, Nat.and_two_pow_sub_one_eq_mod]
  show IntKind.i64.wrap ((BitVec.ofInt 64 n &&& BitVec.ofInt 64 7).toNat : Nat) = n % 8
  rw [key, IntKind.wrap_i64]
  omega
theorem i64_and63 (n : Int) : bits .and .i64 n 63 = n % 64 := by
  have h3 : (BitVec.ofInt 64 63).toNat = 2 ^ 6 - 1 := by decide
  have key : (BitVec.ofInt 64 n &&& BitVec.ofInt 64 63).toNat = (n % ((2 ^ 64 : Nat) : Int)).toNat % 2 ^ 6 := by
    rw [BitVec.toNat_and, BitVec.toNat_ofInt, h3, Nat.and_two_pow_sub_one_eq_mod]
  show IntKind.i64.wrap ((BitVec.ofInt 64 n &&& BitVec.ofInt 64 63).toNat : Nat) = n % 64
  rw [key, IntKind.wrap_i64]
  omega
theorem spread_much (n : Nat) (R : List UInt8) (p : ByteArray) (most : Int) (w : World) (hp : p.data.toList = Cd.numL n ++ R) (hn : n ≤ 1048576) (hm : most < (n : Int)) (hps : p.size ≤ 100000000) :
    Calls Try.prog 9 #[.string p, .int .i64 most] w fun e w' => e = .returned (.tuple #[.string ⟨#[]⟩, .int .i64 3]) ∧ Below w.heap.size w w' := by
  have := spread_gen p.data.toList most w (by rw [str_len]; exact hps)
  rw [bs_data] at this
  have e : Lz.spP p.data.toList most = (3, []) := by
    unfold Lz.spP Lz.spA
    rw [hp, Lz.nm_num _ _ _ (by omega) (by omega)]
    simp only
    rw [if_neg (by simp), if_pos hm]
  rw [e] at this
  exact this
theorem spread_bad (n : Nat) (R : List UInt8) (p : ByteArray) (most : Int) (w : World) (hp : p.data.toList = Cd.numL n ++ R) (hn : 1048576 < n) (hn2 : n ≤ 100000000) (hps : p.size ≤ 100000000) :
    Calls Try.prog 9 #[.string p, .int .i64 most] w fun e w' => e = .returned (.tuple #[.string ⟨#[]⟩, .int .i64 6]) ∧ Below w.heap.size w w' := by
  have := spread_gen p.data.toList most w (by rw [str_len]; exact hps)
  rw [bs_data] at this
  have e : Lz.spP p.data.toList most = (6, []) := by
    have e1 : Lz.nm 1048576 p.data.toList = (0, p.data.toList, 6) := by
      unfold Lz.nm
      rw [hp, Cd.unnum_num n (by omega) R]
      simp only
      rw [if_neg (by simp), if_pos (by omega)]
    unfold Lz.spP Lz.spA
    rw [e1]
    rfl
  rw [e] at this
  exact this
set_option maxHeartbeats 800000 in
set_option maxRecDepth 100000 in
theorem most_law (n most : Int) (w : World) :
    Calls Try.prog 5 #[.int .i64 n, .int .i64 most] w fun e w' => e = .returned (.bool true) ∧ Below w.heap.size w w' := by
  obtain ⟨j, hj, hj4⟩ : ∃ j : Nat, n % 4 = (j : Int) ∧ j < 4 := ⟨(n % 4).toNat, by omega, by omega⟩
  obtain ⟨l, hl, hl4⟩ : ∃ l : Nat, most % 4 = (l : Int) ∧ l < 4 := ⟨(most % 4).toNat, by omega, by omega⟩
  have b1 := i64_and3 n
  have b2 := i64_and3 most
  rw [hj] at b1
  rw [hl] at b2
  obtain ⟨k, hk⟩ : ∃ k, 1048575 + j = k := ⟨_, rfl⟩
  have k1 : 1048575 + (j : Int) = (k : Int) := by omega
  have hmk := run_make_bytes .i64 k (by omega) w
  have hcv : (convert 33 9 (.slice (some ⟨w.heap.size, 0, none⟩) k k)).run Try.prog (w.alloc (.cells (rowA (List.replicate k 0)) 5)) = .ok (.string (bs (List.replicate k 0))) (w.alloc (.cells (rowA (List.replicate k 0)) 5)) := by
    have := run_row (List.replicate k 0) (w.alloc (.cells (rowA (List.replicate k 0)) 5)) w.heap.size 5 (alloc_at rfl) k
    rw [List.length_replicate] at this
    exact this
  have HB0 := hideIt ((Below.refl w.heap.size w).alloc (Nat.le_refl _) (.cells (rowA (List.replicate k 0)) 5))
  obtain ⟨S, hS⟩ : ∃ S : List UInt8, List.replicate k 0 = S := ⟨_, rfl⟩
  have hSl : S.length = k := by rw [← hS, List.length_replicate]
  rw [hS] at hmk hcv HB0
  obtain ⟨W, hW⟩ : ∃ W, w.alloc (.cells (rowA S) 5) = W := ⟨_, rfl⟩
  rw [hW] at hmk hcv HB0
  obtain ⟨s, hs⟩ : ∃ s, bs S = s := ⟨_, rfl⟩
  have hss : s.size = k := by rw [← hs, bs_size, hSl]
  have hsd : s.data.toList = S := by rw [← hs, bs_list]
  have HA := hideIt awake_any
  have j4 : (j : Int) < 4 := by omega
  have kI : (k : Int) ≤ 1048578 := by omega
  by_cases hbig : 1048576 < k
  · have k2 : (1048576 : Int) < (k : Int) := by omega
    have HP := hideIt (fun w => press_much s w (by omega) (by omega))
    have HN := hideIt (fun w => refnum_any k w (by omega))
    obtain ⟨x, hx⟩ : ∃ x, bs (Cd.numL k) = x := ⟨_, rfl⟩
    have hxs : x.size ≤ 10 := by rw [← hx, bs_size]; exact numL_len10 k (by omega)
    have HS := hideIt (fun w => spread_bad k [] x (k : Int) w (by rw [← hx, bs_list, List.append_nil]) hbig (by omega) (by omega))
    rw [hx] at HN
    rw [hs] at hcv
    clear hj hl hk hS hSl hW hs hss hsd hx
    go_enter Try.func5, Try.ntmps5
    go_wp2_with (first | (go_at_call 7; refine (HP.out _).mono ?_; rintro e w1 ⟨rfl, hw1⟩; obtain rfl := hw1.symm) | (go_at_call 13; refine (HN.out _).mono ?_; rintro e w2 ⟨rfl, hb2⟩) | (go_at_call 9; refine (HS.out _).mono ?_; rintro e w3 ⟨rfl, hb3⟩) | (go_at_call 10; refine (HA.out _).mono ?_; rintro e w4 ⟨rfl, hb4⟩))
    go_ret
    exact ⟨rfl, below2 HB0.out (below2 hb2 (below2 hb3 hb4))⟩
  · have k2 : ¬ (1048576 : Int) < (k : Int) := by omega
    have HP := hideIt (fun w => press_any s w (by omega))
    rw [hsd] at HP
    obtain ⟨p, hp⟩ : ∃ p, bs (Lz.press S) = p := ⟨_, rfl⟩
    rw [hp] at HP
    obtain ⟨m, hm⟩ : ∃ m, k - 1 + l = m := ⟨_, rfl⟩
    have m1 : (k : Int) - 1 + (l : Int) = (m : Int) := by omega
    have mI : (m : Int) ≤ 2097152 := by omega
    have hps : p.size ≤ 5000000 := by rw [← hp, bs_size]; exact Lz.press_len S (by omega)
    rw [hs] at hcv
    by_cases hmk2 : m < k
    · have m2 : ¬ (k : Int) ≤ (m : Int) := by omega
      have m3 : decide ((k : Int) ≤ (m : Int)) = false := decide_eq_false m2
      have m4 : decide (k ≤ m) = false := decide_eq_false (by omega)
      have HS := hideIt (fun w => spread_much k (Lz.tell S 0 0) p (m : Int) w (by rw [← hp, bs_list, Lz.press, hSl]) (by omega) (by omega) (by omega))
      clear hj hl hk hS hSl hW hs hss hsd hp hm
      go_enter Try.func5, Try.ntmps5
      go_wp2_with (first | (go_at_call 7; refine (HP.out _).mono ?_; rintro e w1 ⟨rfl, hb1⟩) | (go_at_call 9; refine (HS.out _).mono ?_; rintro e w3 ⟨rfl, hb3⟩) | (go_at_call 10; refine (HA.out _).mono ?_; rintro e w4 ⟨rfl, hb4⟩))
      go_ret
      exact ⟨rfl, below2 HB0.out (below2 hb1 (below2 hb3 hb4))⟩
    · have m2 : (k : Int) ≤ (m : Int) := by omega
      have m3 : decide ((k : Int) ≤ (m : Int)) = true := decide_eq_true m2
      have HS := hideIt (fun w => spread_again S p (m : Int) w hp (by omega) (by rw [hSl]; omega))
      rw [hs] at HS
      have ssz : (s.size : Int) = (k : Int) := by rw [hss]
      clear hj hl hk hS hSl hW hs hss hsd hp hm
      go_enter Try.func5, Try.ntmps5
      go_wp2_with (first | (go_at_call 7; refine (HP.out _).mono ?_; rintro e w1 ⟨rfl, hb1⟩) | (go_at_call 9; refine (HS.out _).mono ?_; rintro e w3 ⟨rfl, hb3⟩) | (go_at_call 10; refine (HA.out _).mono ?_; rintro e w4 ⟨rfl, hb4⟩))
      go_ret
      exact ⟨rfl, below2 HB0.out (below2 hb1 (below2 hb3 hb4))⟩
end Go.Proofs.Ytmohnlebkppgfaa.Ld
