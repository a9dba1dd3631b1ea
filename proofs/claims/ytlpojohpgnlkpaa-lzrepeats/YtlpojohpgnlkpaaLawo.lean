/- The law of most bytes, walked. -/
import Derived.Test.YtlpojohpgnlkpaaAwk4
namespace Go.Proofs.Ytlpojohpgnlkpaa
open Go.RowKit
theorem i64_and3 (n : Int) : bits .and .i64 n 3 = n % 4 := by
  have h3 : (BitVec.ofInt 64 3).toNat = 2 ^ 2 - 1 := by decide
  have key : (BitVec.ofInt 64 n &&& BitVec.ofInt 64 3).toNat = (n % ((2 ^ 64 : Nat) : Int)).toNat % 2 ^ 2 := by
    rw [BitVec.toNat_and, BitVec.toNat_ofInt, h3, Nat.and_two_pow_sub_one_eq_mod]
  show IntKind.i64.wrap ((BitVec.ofInt 64 n &&& BitVec.ofInt 64 3).toNat : Nat) = n % 4
  rw [key, IntKind.wrap_i64]
  omega
theorem i64_and7 (n : Int) : bits .and .i64 n 7 = n % 8 := by
  have h3 : (BitVec.ofInt 64 7).toNat = 2 ^ 3 - 1 := by decide
  have key : (BitVec.ofInt 64 n &&& BitVec.ofInt 64 7).toNat = (n % ((2 ^ 64 : Nat) : Int)).toNat % 2 ^ 3 := by
    rw [BitVec.toNat_and, BitVec.toNat_ofInt, h3, Nat.and_two_pow_sub_one_eq_mod]
  show IntKind.i64.wrap ((BitVec.ofInt 64 n &&& BitVec.ofInt 64 7).toNat : Nat) = n % 8
  rw [key, IntKind.wrap_i64]
  omega
theorem i64_and63 (n : Int) : bits .and .i64 n 63 = n % 64 := by
  have h3 : (BitVec.ofInt 64 63).toNat = 2 ^ 6 - 1 := by decide
  have key : (BitVec.ofInt 64 n &&& BitVec.ofInt 64 63).toNat = (n % ((2 ^ 64 : Nat) : Int)).toNat % 2 ^ 6 := by
    rw [BitVec.toNat_and, BitVec.toNat_ofInt, h3, Nat.and_two_pow_sub_one_eq_mod]
  show IntKind.i64.wrap ((BitVec.ofInt 64 n &&& BitVec.ofInt 64 63).toNat : Nat) = n % 64
  rw [key, IntKind.wrap_i64]
  omega
set_option maxHeartbeats 400000 in
set_option maxRecDepth 100000 in
theorem spread_much (n : Nat) (R : List UInt8) (p : ByteArray) (most : Int) (w : World) (hp : p.data.toList = Cd.numL n ++ R) (hn : n ≤ 1048576) (hm : most < (n : Int)) (hps : p.size ≤ 100000000) :
    Calls Try.prog 10 #[.string p, .int .i64 most] w fun e w' => e = .returned (.tuple #[.string ⟨#[]⟩, .int .i64 3]) ∧ Below w.heap.size w w' := by
  obtain ⟨pu, pd⟩ := past_num hp (by omega)
  obtain ⟨N, hN⟩ : ∃ N, w.heap.size = N := ⟨_, rfl⟩
  have hb0 : (w.alloc (.cells #[.slice none 0 0, .string p] 44)).heap[N]? = some (.cells #[.slice none 0 0, .string p] 44 (0, 0)) := alloc_at hN
  have HN := hideIt (number_ok N n _ 1048576 (.slice none 0 0) p _ hb0 pu (by omega) (by omega) hps)
  obtain ⟨r1, hr1⟩ : ∃ r1, p.extract (Cd.numL n).length p.size = r1 := ⟨_, rfl⟩
  rw [hr1] at HN
  have HB : Hid (Below N w ((w.alloc (.cells #[.slice none 0 0, .string p] 44)).setCell ⟨N, 1, none⟩ (.string r1))) := hideIt (((Below.refl N w).alloc (by omega) _).setCell (p := ⟨N, 1, none⟩) (Nat.le_refl _) _)
  obtain ⟨W1, hW1⟩ : ∃ W, (w.alloc (.cells #[.slice none 0 0, .string p] 44)).setCell ⟨N, 1, none⟩ (.string r1) = W := ⟨_, rfl⟩
  rw [hW1] at HN HB
  have nI : (n : Int) ≤ 1048576 := by omega
  rw [hN]
  clear pu hp hb0 hr1 pd hW1
  go_enter Try.func10, Try.ntmps10
  go_wp2_with (first | (go_at_call 22; refine HN.out.mono ?_; rintro e wx ⟨rfl, hwx⟩; obtain rfl := hwx.symm))
  go_ret2
  exact ⟨rfl, HB.out⟩
set_option maxHeartbeats 400000 in
set_option maxRecDepth 100000 in
theorem spread_bad (n : Nat) (R : List UInt8) (p : ByteArray) (most : Int) (w : World) (hp : p.data.toList = Cd.numL n ++ R) (hn : 1048576 < n) (hn2 : n ≤ 100000000) (hps : p.size ≤ 100000000) :
    Calls Try.prog 10 #[.string p, .int .i64 most] w fun e w' => e = .returned (.tuple #[.string ⟨#[]⟩, .int .i64 6]) ∧ Below w.heap.size w w' := by
  obtain ⟨pu, pd⟩ := past_num hp (by omega)
  obtain ⟨N, hN⟩ : ∃ N, w.heap.size = N := ⟨_, rfl⟩
  have hb0 : (w.alloc (.cells #[.slice none 0 0, .string p] 44)).heap[N]? = some (.cells #[.slice none 0 0, .string p] 44 (0, 0)) := alloc_at hN
  have HN := hideIt (number_big N n _ 1048576 (.slice none 0 0) p _ hb0 pu hn hn2 hps)
  have HB : Hid (Below N w (w.alloc (.cells #[.slice none 0 0, .string p] 44))) := hideIt ((Below.refl N w).alloc (by omega) _)
  rw [hN]
  clear pu hp hb0 pd
  go_enter Try.func10, Try.ntmps10
  go_wp2_with (first | (go_at_call 22; refine HN.out.mono ?_; rintro e wx ⟨rfl, hwx⟩; obtain rfl := hwx.symm))
  go_ret2
  exact ⟨rfl, HB.out⟩
set_option maxHeartbeats 800000 in
set_option maxRecDepth 100000 in
theorem most_law (n most : Int) (w : World) :
    Calls Try.prog 6 #[.int .i64 n, .int .i64 most] w fun e w' => e = .returned (.bool true) ∧ Below w.heap.size w w' := by
  obtain ⟨j, hj, hj4⟩ : ∃ j : Nat, n % 4 = (j : Int) ∧ j < 4 := ⟨(n % 4).toNat, by omega, by omega⟩
  obtain ⟨l, hl, hl4⟩ : ∃ l : Nat, most % 4 = (l : Int) ∧ l < 4 := ⟨(most % 4).toNat, by omega, by omega⟩
  have b1 := i64_and3 n
  have b2 := i64_and3 most
  rw [hj] at b1
  rw [hl] at b2
  obtain ⟨k, hk⟩ : ∃ k, 1048575 + j = k := ⟨_, rfl⟩
  have k1 : 1048575 + (j : Int) = (k : Int) := by omega
  have hmk := run_make_bytes .i64 k (by omega) w
  have hcv : (convert 35 9 (.slice (some ⟨w.heap.size, 0, none⟩) k k)).run Try.prog (w.alloc (.cells (rowA (List.replicate k 0)) 5)) = .ok (.string (bs (List.replicate k 0))) (w.alloc (.cells (rowA (List.replicate k 0)) 5)) := by
    have := run_row (List.replicate k 0) (w.alloc (.cells (rowA (List.replicate k 0)) 5)) w.heap.size 5 (alloc_at rfl) k
    rw [List.length_replicate] at this
    exact this
  have HB0 := hideIt ((Below.refl w.heap.size w).alloc (Nat.le_refl _) (.cells (rowA (List.replicate k 0)) 5))
  obtain ⟨S, hS⟩ : ∃ S : List UInt8, List.replicate k 0 = S := ⟨_, rfl⟩
  have hSl : S.length = k := by rw [← hS, List.length_replicate]
  rw [hS] at hmk hcv HB0
  obtain ⟨W, hW⟩ : ∃ W, w.alloc (.cells (rowA S) 5) = W := ⟨_, rfl⟩
  rw [hW] at hmk hcv HB0
  obtain ⟨s, hs⟩ : ∃ s, bs S = s := ⟨_, rfl⟩
  have hss : s.size = k := by rw [← hs, bs_size, hSl]
  have hsd : s.data.toList = S := by rw [← hs, bs_list]
  have HA := hideIt awake_any
  have j4 : (j : Int) < 4 := by omega
  have kI : (k : Int) ≤ 1048578 := by omega
  by_cases hbig : 1048576 < k
  · have k2 : (1048576 : Int) < (k : Int) := by omega
    have HP := hideIt (fun w => press_much s w (by omega) (by omega))
    have HN := hideIt (fun w => refnum_any k w (by omega))
    obtain ⟨x, hx⟩ : ∃ x, bs (Cd.numL k) = x := ⟨_, rfl⟩
    have hxs : x.size ≤ 10 := by rw [← hx, bs_size]; exact numL_len10 k (by omega)
    have HS := hideIt (fun w => spread_bad k [] x (k : Int) w (by rw [← hx, bs_list, List.append_nil]) hbig (by omega) (by omega))
    rw [hx] at HN
    rw [hs] at hcv
    clear hj hl hk hS hSl hW hs hss hsd hx
    go_enter Try.func6, Try.ntmps6
    go_wp2_with (first | (go_at_call 8; refine (HP.out _).mono ?_; rintro e w1 ⟨rfl, hw1⟩; obtain rfl := hw1.symm) | (go_at_call 15; refine (HN.out _).mono ?_; rintro e w2 ⟨rfl, hb2⟩) | (go_at_call 10; refine (HS.out _).mono ?_; rintro e w3 ⟨rfl, hb3⟩) | (go_at_call 11; refine (HA.out _).mono ?_; rintro e w4 ⟨rfl, hb4⟩))
    go_ret
    exact ⟨rfl, below2 HB0.out (below2 hb2 (below2 hb3 hb4))⟩
  · have k2 : ¬ (1048576 : Int) < (k : Int) := by omega
    have HP := hideIt (fun w => press_any s w (by omega))
    rw [hsd] at HP
    obtain ⟨p, hp⟩ : ∃ p, bs (Lz.press S) = p := ⟨_, rfl⟩
    rw [hp] at HP
    obtain ⟨m, hm⟩ : ∃ m, k - 1 + l = m := ⟨_, rfl⟩
    have m1 : (k : Int) - 1 + (l : Int) = (m : Int) := by omega
    have mI : (m : Int) ≤ 2097152 := by omega
    have hps : p.size ≤ 5000000 := by rw [← hp, bs_size]; exact Lz.press_len S (by omega)
    rw [hs] at hcv
    by_cases hmk2 : m < k
    · have m2 : ¬ (k : Int) ≤ (m : Int) := by omega
      have m3 : decide ((k : Int) ≤ (m : Int)) = false := decide_eq_false m2
      have m4 : decide (k ≤ m) = false := decide_eq_false (by omega)
      have HS := hideIt (fun w => spread_much k (Lz.tell S 0 0) p (m : Int) w (by rw [← hp, bs_list, Lz.press, hSl]) (by omega) (by omega) (by omega))
      clear hj hl hk hS hSl hW hs hss hsd hp hm
      go_enter Try.func6, Try.ntmps6
      go_wp2_with (first | (go_at_call 8; refine (HP.out _).mono ?_; rintro e w1 ⟨rfl, hb1⟩) | (go_at_call 10; refine (HS.out _).mono ?_; rintro e w3 ⟨rfl, hb3⟩) | (go_at_call 11; refine (HA.out _).mono ?_; rintro e w4 ⟨rfl, hb4⟩))
      go_ret
      exact ⟨rfl, below2 HB0.out (below2 hb1 (below2 hb3 hb4))⟩
    · have m2 : (k : Int) ≤ (m : Int) := by omega
      have m3 : decide ((k : Int) ≤ (m : Int)) = true := decide_eq_true m2
      have HS := hideIt (fun w => spread_again S p (m : Int) w hp (by omega) (by rw [hSl]; omega))
      rw [hs] at HS
      have ssz : (s.size : Int) = (k : Int) := by rw [hss]
      clear hj hl hk hS hSl hW hs hss hsd hp hm
      go_enter Try.func6, Try.ntmps6
      go_wp2_with (first | (go_at_call 8; refine (HP.out _).mono ?_; rintro e w1 ⟨rfl, hb1⟩) | (go_at_call 10; refine (HS.out _).mono ?_; rintro e w3 ⟨rfl, hb3⟩) | (go_at_call 11; refine (HA.out _).mono ?_; rintro e w4 ⟨rfl, hb4⟩))
      go_ret
      exact ⟨rfl, below2 HB0.out (below2 hb1 (below2 hb3 hb4))⟩
end Go.Proofs.Ytlpojohpgnlkpaa
