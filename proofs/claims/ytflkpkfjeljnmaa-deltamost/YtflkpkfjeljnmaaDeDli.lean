/- The law of most bytes, walked. -/
import Derived.Test.YtflkpkfjeljnmaaDeDlf
namespace Go.Proofs.Ytflkpkfjeljnmaa.De
open Cb
open Go.RowKit
theorem i64_and511 (n : Int) : bits .and .i64 n 511 = n % 512 := by
  have h3 : (BitVec.ofInt 64 511).toNat = 2 ^ 9 - 1 := by decide
  have key : (BitVec.ofInt 64 n &&& BitVec.ofInt 64 511).toNat = (n % ((2 ^ 64 : Nat) : Int)).toNat % 2 ^ 9 := by
    rw [BitVec.toNat_and, BitVec.toNat_ofInt, h3, Nat.and_two_pow_sub_one_eq_mod]
  show IntKind.i64.wrap ((BitVec.ofInt 64 n &&& BitVec.ofInt 64 511).toNat : Nat) = n % 512
  rw [key, IntKind.wrap_i64]
  omega
namespace Dl
theorem app_much (base s : List UInt8) (most : Int) (hb : base.length ≤ 100000000) (hs : s.length ≤ 100000000) (hm : most < (s.length : Int)) : app base (make base s) most = (3, []) := by
  unfold app make
  rw [List.append_assoc, nm_num _ _ (by omega)]
  simp only
  rw [nm_num _ _ (by omega)]
  simp only
  rw [if_neg (by simp), if_neg (by simp), if_neg (by simp), if_pos hm]
theorem app_other (base c s : List UInt8) (most : Int) (hb : base.length ≤ 100000000) (hs : s.length ≤ 100000000) (hc : base.length ≠ c.length) : app c (make base s) most = (6, []) := by
  unfold app make
  rw [List.append_assoc, nm_num _ _ (by omega)]
  simp only
  rw [nm_num _ _ (by omega)]
  simp only
  rw [if_neg (by simp), if_neg (by simp), if_pos hc]
end Dl
set_option maxHeartbeats 800000 in
set_option maxRecDepth 100000 in
theorem most_law (b s : ByteArray) (most : Int) (w : World) (hb : b.size ≤ maxLen) (hs : s.size ≤ maxLen) :
    Calls Try.prog 5 #[.string b, .string s, .int .i64 most] w fun e w' => e = .returned (.bool true) ∧ Below w.heap.size w w' := by
  have HF1 := hideIt (fun w => few9_any b w hb)
  have HF2 := hideIt (fun w => few9_any s w hs)
  have f1 := few9_size b
  have f2 := few9_size s
  obtain ⟨B, hB⟩ : ∃ t, few9 b = t := ⟨_, rfl⟩
  obtain ⟨S, hS⟩ : ∃ t, few9 s = t := ⟨_, rfl⟩
  rw [hB] at HF1 f1
  rw [hS] at HF2 f2
  have l1 : B.data.toList.length ≤ 400 := by rw [str_len]; exact f1
  have l2 : S.data.toList.length ≤ 400 := by rw [str_len]; exact f2
  obtain ⟨n, hn⟩ : ∃ n, S.size = n := ⟨_, rfl⟩
  have l3 : S.data.toList.length = n := by rw [str_len, hn]
  have nI : (S.size : Int) = (n : Int) := by omega
  have nI2 : (n : Int) ≤ 400 := by omega
  have HW := hideIt awake9_any
  obtain ⟨m, hm⟩ : ∃ m : Nat, most % 512 = (m : Int) := ⟨(most % 512).toNat, by omega⟩
  have ma : bits .and .i64 most 511 = (m : Int) := by rw [i64_and511, hm]
  have m2 : (m : Int) ≤ 511 := by omega
  have ml := Dl.make_len B.data.toList S.data.toList (by omega) (by omega)
  have HM := hideIt (fun w => make_any B.data.toList S.data.toList w (by omega) (by omega))
  have HA := hideIt (fun w => apply_made B.data.toList B.data.toList S.data.toList (m : Int) w (by omega) (by omega) (by omega) (by omega) (by omega))
  have HC := hideIt (fun w => apply_made (B.data.toList ++ [120]) B.data.toList S.data.toList 1000 w (by rw [List.length_append]; simp; omega) (by omega) (by omega) (by omega) (by omega))
  rw [Dl.app_other _ _ _ _ (by omega) (by omega) (by simp)] at HC
  have eB : bs (B.data.toList ++ [120]) = B ++ ⟨#[120]⟩ := by rw [← bs_catD, bs_data]; rfl
  have bI : ¬ 9223372036854775807 < B.size + 1 := by omega
  rw [eB] at HC
  have be : bs [] = (⟨#[]⟩ : ByteArray) := rfl
  simp only [be] at HC
  obtain ⟨d, hd⟩ : ∃ d, bs (Dl.make B.data.toList S.data.toList) = d := ⟨_, rfl⟩
  rw [hd] at HC HA
  simp only [bs_data] at HM
  rw [hd] at HM
  by_cases hle : n ≤ m
  · rw [Dl.app_make _ _ _ (by omega) (by omega) (by omega)] at HA
    simp only [bs_data] at HA
    have c1 : (n : Int) ≤ (m : Int) := by omega
    have c2 : decide ((n : Int) ≤ (m : Int)) = true := decide_eq_true c1
    have q2 : (S.toList == S.toList) = true := by simp
    clear hB hS hd hb hs ml l1 l2 l3 f1 f2 hm eB be hn hle
    go_enter Try.func5, Try.ntmps5
    go_wp2_with (first | (go_at_call_of 7 (Value.string b); refine (HF1.out _).mono ?_; rintro e wx ⟨rfl, hwx⟩; obtain rfl := hwx.symm) | (go_at_call_of 7 (Value.string s); refine (HF2.out _).mono ?_; rintro e wx ⟨rfl, hwx⟩; obtain rfl := hwx.symm) | (go_at_call 6; refine (HM.out _).mono ?_; rintro e w1 ⟨rfl, hb1⟩) | (go_at_call_of 8 (Value.string B); refine (HA.out _).mono ?_; rintro e w2 ⟨rfl, hb2⟩) | (go_at_call 8; refine (HC.out _).mono ?_; rintro e w3 ⟨rfl, hb3⟩) | (go_at_call 9; refine (HW.out _).mono ?_; rintro e w4 ⟨rfl, hb4⟩))
    go_ret
    exact ⟨rfl, below2 hb1 (below2 hb2 (below2 hb3 hb4))⟩
  · rw [Dl.app_much _ _ _ (by omega) (by omega) (by omega)] at HA
    simp only [be] at HA
    have c1 : ¬ (n : Int) ≤ (m : Int) := by omega
    have c2 : decide ((n : Int) ≤ (m : Int)) = false := decide_eq_false c1
    have c3 : decide (n ≤ m) = false := decide_eq_false hle
    clear hB hS hd hb hs ml l1 l2 l3 f1 f2 hm eB be hn
    go_enter Try.func5, Try.ntmps5
    go_wp2_with (first | (go_at_call_of 7 (Value.string b); refine (HF1.out _).mono ?_; rintro e wx ⟨rfl, hwx⟩; obtain rfl := hwx.symm) | (go_at_call_of 7 (Value.string s); refine (HF2.out _).mono ?_; rintro e wx ⟨rfl, hwx⟩; obtain rfl := hwx.symm) | (go_at_call 6; refine (HM.out _).mono ?_; rintro e w1 ⟨rfl, hb1⟩) | (go_at_call_of 8 (Value.string B); refine (HA.out _).mono ?_; rintro e w2 ⟨rfl, hb2⟩) | (go_at_call 8; refine (HC.out _).mono ?_; rintro e w3 ⟨rfl, hb3⟩) | (go_at_call 9; refine (HW.out _).mono ?_; rintro e w4 ⟨rfl, hb4⟩))
    go_ret
    exact ⟨rfl, below2 hb1 (below2 hb2 (below2 hb3 hb4))⟩
end Go.Proofs.Ytflkpkfjeljnmaa.De
