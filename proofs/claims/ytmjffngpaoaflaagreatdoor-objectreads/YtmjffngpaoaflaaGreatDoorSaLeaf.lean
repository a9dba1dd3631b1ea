/- The leaf functions of the sums, walked: what each answers, of any words; nothing in memory turns. -/
import Derived.Test.YtmjffngpaoaflaaGreatDoorRows
import Derived.Test.YtmjffngpaoaflaaGreatDoorSaSha
namespace Go.Proofs.YtmjffngpaoaflaaGreatDoor.Sa
open Go.RowKit
theorem ret_u32 {a b : Int} (h : a = b) : Ending.returned (.int .u32 a) = .returned (.int .u32 b) := by rw [h]
theorem rotl_val (x : BitVec 32) (n m : Nat) (h : m = n) :
    bits .or .u32 ((x.toNat : Int) * 2 ^ (32 - n) % 4294967296) ((x.toNat : Int) / 2 ^ m) = ((Sha.rotr x n).toNat : Int) := by
  subst h
  rw [Sha.b_shl, Sha.b_shr, Sha.b_or, Sha.rotr, BitVec.or_comm]
set_option maxHeartbeats 400000 in
theorem rotl_any (x : BitVec 32) (k : Int) (n : Nat) (w : World) (hk : k = -(n : Int)) (h1 : 1 ≤ n) (h2 : n ≤ 31) :
    Calls Tryz.prog 157 #[.int .u32 (x.toNat : Int), .int .i64 k] w fun e w' => e = .returned (.int .u32 ((Sha.rotr x n).toNat : Int)) ∧ w' = w := by
  have hs : bits BinOp.and IntKind.u64 (IntKind.u64.wrap k) 31 = ((32 - n : Nat) : Int) := by rw [hk]; exact Sha.and31 n h1 h2
  have hx := x.isLt
  have HK : Hid (k = -(n : Int)) := hk
  clear hk
  go_enter Tryz.func157, Tryz.ntmps157
  go_wp2
  go_ret
  exact ⟨ret_u32 (rotl_val x n _ (by omega)), rfl⟩
set_option maxHeartbeats 400000 in
theorem right_any (x : BitVec 32) (k : Int) (w : World) (h1 : 1 ≤ k) (h2 : k ≤ 31) :
    Calls Tryz.prog 151 #[.int .u32 (x.toNat : Int), .int .i64 k] w fun e w' => e = .returned (.int .u32 ((Sha.rotr x k.toNat).toNat : Int)) ∧ w' = w := by
  go_enter Tryz.func151, Tryz.ntmps151
  go_wp2_with (go_at_call 157; refine (rotl_any x _ k.toNat _ (by omega) (by omega) (by omega)).mono ?_; rintro e w' ⟨rfl, rfl⟩)
  go_ret
  exact ⟨rfl, rfl⟩
set_option maxHeartbeats 400000 in
theorem bs1_any (x : BitVec 32) (w : World) :
    Calls Tryz.prog 131 #[.int .u32 (x.toNat : Int)] w fun e w' => e = .returned (.int .u32 ((Sha.bs1 x).toNat : Int)) ∧ w' = w := by
  go_enter Tryz.func131, Tryz.ntmps131
  go_wp2_with (go_at_call 151; refine (right_any x _ _ (by decide) (by decide)).mono ?_; rintro e w' ⟨rfl, rfl⟩)
  go_ret
  exact ⟨ret_u32 (by rw [Sha.b_xor, Sha.b_xor]; rfl), rfl⟩
set_option maxHeartbeats 400000 in
theorem bs0_any (x : BitVec 32) (w : World) :
    Calls Tryz.prog 133 #[.int .u32 (x.toNat : Int)] w fun e w' => e = .returned (.int .u32 ((Sha.bs0 x).toNat : Int)) ∧ w' = w := by
  go_enter Tryz.func133, Tryz.ntmps133
  go_wp2_with (go_at_call 151; refine (right_any x _ _ (by decide) (by decide)).mono ?_; rintro e w' ⟨rfl, rfl⟩)
  go_ret
  exact ⟨ret_u32 (by rw [Sha.b_xor, Sha.b_xor]; rfl), rfl⟩
set_option maxHeartbeats 400000 in
theorem ss1_any (x : BitVec 32) (w : World) :
    Calls Tryz.prog 149 #[.int .u32 (x.toNat : Int)] w fun e w' => e = .returned (.int .u32 ((Sha.ss1 x).toNat : Int)) ∧ w' = w := by
  have hx := x.isLt
  go_enter Tryz.func149, Tryz.ntmps149
  go_wp2_with (go_at_call 151; refine (right_any x _ _ (by decide) (by decide)).mono ?_; rintro e w' ⟨rfl, rfl⟩)
  go_ret
  exact ⟨ret_u32 (by rw [Sha.b_xor, Sha.b_shr' x 10 1024, Sha.b_xor]; rfl), rfl⟩
set_option maxHeartbeats 400000 in
theorem ss0_any (x : BitVec 32) (w : World) :
    Calls Tryz.prog 150 #[.int .u32 (x.toNat : Int)] w fun e w' => e = .returned (.int .u32 ((Sha.ss0 x).toNat : Int)) ∧ w' = w := by
  have hx := x.isLt
  go_enter Tryz.func150, Tryz.ntmps150
  go_wp2_with (go_at_call 151; refine (right_any x _ _ (by decide) (by decide)).mono ?_; rintro e w' ⟨rfl, rfl⟩)
  go_ret
  exact ⟨ret_u32 (by rw [Sha.b_xor, Sha.b_shr' x 3 8, Sha.b_xor]; rfl), rfl⟩
set_option maxHeartbeats 400000 in
theorem choice_any (x y z : BitVec 32) (w : World)  :
    Calls Tryz.prog 132 #[.int .u32 (x.toNat : Int), .int .u32 (y.toNat : Int), .int .u32 (z.toNat : Int)] w fun e w' => e = .returned (.int .u32 ((Sha.ch x y z).toNat : Int)) ∧ w' = w := by
  go_enter Tryz.func132, Tryz.ntmps132
  go_wp2
  go_ret
  exact ⟨ret_u32 (by rw [Sha.b_not, Sha.b_and, Sha.b_and, Sha.b_xor]; rfl), rfl⟩
set_option maxHeartbeats 400000 in
theorem maj_any (x y z : BitVec 32) (w : World)  :
    Calls Tryz.prog 134 #[.int .u32 (x.toNat : Int), .int .u32 (y.toNat : Int), .int .u32 (z.toNat : Int)] w fun e w' => e = .returned (.int .u32 ((Sha.maj x y z).toNat : Int)) ∧ w' = w := by
  go_enter Tryz.func134, Tryz.ntmps134
  go_wp2
  go_ret
  exact ⟨ret_u32 (by rw [Sha.b_and, Sha.b_and, Sha.b_and, Sha.b_xor, Sha.b_xor]; rfl), rfl⟩
end Go.Proofs.YtmjffngpaoaflaaGreatDoor.Sa
