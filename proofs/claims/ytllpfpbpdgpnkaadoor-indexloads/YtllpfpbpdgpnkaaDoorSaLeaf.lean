/- The leaf functions of the sums, walked: what each answers, of any words; nothing in memory turns. -/
import Derived.Test.YtllpfpbpdgpnkaaDoorRows
import Derived.Test.YtllpfpbpdgpnkaaDoorSaSha
namespace Go.Proofs.YtllpfpbpdgpnkaaDoor.Sa
open Go.RowKit
theorem ret_u32 {a b : Int} (h : a = b) : Ending.returned (.int .u32 a) = .returned (.int .u32 b) := by rw [h]
theorem rotl_val (x : BitVec 32) (n m : Nat) (h : m = n) :
    bits .or .u32 ((x.toNat : Int) * 2 ^ (32 - n) % 4294967296) ((x.toNat : Int) / 2 ^ m) = ((Sha.rotr x n).toNat : Int) := by
  subst h
  rw [Sha.b_shl, Sha.b_shr, Sha.b_or, Sha.rotr, BitVec.or_comm]
set_option maxHeartbeats 400000 in
theorem rotl_any (x : BitVec 32) (k : Int) (n : Nat) (w : World) (hk : k = -(n : Int)) (h1 : 1 ≤ n) (h2 : n ≤ 31) :
    Calls Tryd.prog 79 #[.int .u32 (x.toNat : Int), .int .i64 k] w fun e w' => e = .returned (.int .u32 ((Sha.rotr x n).toNat : Int)) ∧ w' = w := by
  have hs : bits BinOp.and IntKind.u64 (IntKind.u64.wrap k) 31 = ((32 - n : Nat) : Int) := by rw [hk]; exact Sha.and31 n h1 h2
  have hx := x.isLt
  have HK : Hid (k = -(n : Int)) := hk
  clear hk
  go_enter Tryd.func79, Tryd.ntmps79
  go_wp2
  go_ret
  exact ⟨ret_u32 (rotl_val x n _ (by omega)), rfl⟩
set_option maxHeartbeats 400000 in
theorem right_any (x : BitVec 32) (k : Int) (w : World) (h1 : 1 ≤ k) (h2 : k ≤ 31) :
    Calls Tryd.prog 77 #[.int .u32 (x.toNat : Int), .int .i64 k] w fun e w' => e = .returned (.int .u32 ((Sha.rotr x k.toNat).toNat : Int)) ∧ w' = w := by
  go_enter Tryd.func77, Tryd.ntmps77
  go_wp2_with (go_at_call 79; refine (rotl_any x _ k.toNat _ (by omega) (by omega) (by omega)).mono ?_; rintro e w' ⟨rfl, rfl⟩)
  go_ret
  exact ⟨rfl, rfl⟩
set_option maxHeartbeats 400000 in
theorem bs1_any (x : BitVec 32) (w : World) :
    Calls Tryd.prog 66 #[.int .u32 (x.toNat : Int)] w fun e w' => e = .returned (.int .u32 ((Sha.bs1 x).toNat : Int)) ∧ w' = w := by
  go_enter Tryd.func66, Tryd.ntmps66
  go_wp2_with (go_at_call 77; refine (right_any x _ _ (by decide) (by decide)).mono ?_; rintro e w' ⟨rfl, rfl⟩)
  go_ret
  exact ⟨ret_u32 (by rw [Sha.b_xor, Sha.b_xor]; rfl), rfl⟩
set_option maxHeartbeats 400000 in
theorem bs0_any (x : BitVec 32) (w : World) :
    Calls Tryd.prog 68 #[.int .u32 (x.toNat : Int)] w fun e w' => e = .returned (.int .u32 ((Sha.bs0 x).toNat : Int)) ∧ w' = w := by
  go_enter Tryd.func68, Tryd.ntmps68
  go_wp2_with (go_at_call 77; refine (right_any x _ _ (by decide) (by decide)).mono ?_; rintro e w' ⟨rfl, rfl⟩)
  go_ret
  exact ⟨ret_u32 (by rw [Sha.b_xor, Sha.b_xor]; rfl), rfl⟩
set_option maxHeartbeats 400000 in
theorem ss1_any (x : BitVec 32) (w : World) :
    Calls Tryd.prog 75 #[.int .u32 (x.toNat : Int)] w fun e w' => e = .returned (.int .u32 ((Sha.ss1 x).toNat : Int)) ∧ w' = w := by
  have hx := x.isLt
  go_enter Tryd.func75, Tryd.ntmps75
  go_wp2_with (go_at_call 77; refine (right_any x _ _ (by decide) (by decide)).mono ?_; rintro e w' ⟨rfl, rfl⟩)
  go_ret
  exact ⟨ret_u32 (by rw [Sha.b_xor, Sha.b_shr' x 10 1024, Sha.b_xor]; rfl), rfl⟩
set_option maxHeartbeats 400000 in
theorem ss0_any (x : BitVec 32) (w : World) :
    Calls Tryd.prog 76 #[.int .u32 (x.toNat : Int)] w fun e w' => e = .returned (.int .u32 ((Sha.ss0 x).toNat : Int)) ∧ w' = w := by
  have hx := x.isLt
  go_enter Tryd.func76, Tryd.ntmps76
  go_wp2_with (go_at_call 77; refine (right_any x _ _ (by decide) (by decide)).mono ?_; rintro e w' ⟨rfl, rfl⟩)
  go_ret
  exact ⟨ret_u32 (by rw [Sha.b_xor, Sha.b_shr' x 3 8, Sha.b_xor]; rfl), rfl⟩
set_option maxHeartbeats 400000 in
theorem choice_any (x y z : BitVec 32) (w : World)  :
    Calls Tryd.prog 67 #[.int .u32 (x.toNat : Int), .int .u32 (y.toNat : Int), .int .u32 (z.toNat : Int)] w fun e w' => e = .returned (.int .u32 ((Sha.ch x y z).toNat : Int)) ∧ w' = w := by
  go_enter Tryd.func67, Tryd.ntmps67
  go_wp2
  go_ret
  exact ⟨ret_u32 (by rw [Sha.b_not, Sha.b_and, Sha.b_and, Sha.b_xor]; rfl), rfl⟩
set_option maxHeartbeats 400000 in
theorem maj_any (x y z : BitVec 32) (w : World)  :
    Calls Tryd.prog 69 #[.int .u32 (x.toNat : Int), .int .u32 (y.toNat : Int), .int .u32 (z.toNat : Int)] w fun e w' => e = .returned (.int .u32 ((Sha.maj x y z).toNat : Int)) ∧ w' = w := by
  go_enter Tryd.func69, Tryd.ntmps69
  go_wp2
  go_ret
  exact ⟨ret_u32 (by rw [Sha.b_and, Sha.b_and, Sha.b_and, Sha.b_xor, Sha.b_xor]; rfl), rfl⟩
set_option maxHeartbeats 400000 in
theorem turn_any (x : BitVec 32) (k : Int) (w : World) (h1 : 1 ≤ k) (h2 : k ≤ 31) :
    Calls Tryd.prog 30 #[.int .u32 (x.toNat : Int), .int .i64 k] w fun e w' => e = .returned (.int .u32 ((Sha.rotr x k.toNat).toNat : Int)) ∧ w' = w := by
  have hx := x.isLt
  go_enter Tryd.func30, Tryd.ntmps30
  go_wp2
  go_ret
  exact ⟨ret_u32 (Sha.turn_val x k.toNat _ (by omega) (by omega) (by omega)), rfl⟩
end Go.Proofs.YtllpfpbpdgpnkaaDoor.Sa
