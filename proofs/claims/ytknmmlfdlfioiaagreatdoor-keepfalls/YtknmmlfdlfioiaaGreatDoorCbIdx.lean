/- The place of a digit among the digits, by the library's own search. -/
import Derived.Test.YtknmmlfdlfioiaaGreatDoorCbHexw
import Derived.Lib.Bytealg
import Derived.Lib.Walk
namespace Go.Proofs.YtknmmlfdlfioiaaGreatDoor.Cb
open Go.RowKit
set_option maxHeartbeats 400000 in
set_option maxRecDepth 100000 in
theorem idx_in (s : ByteArray) (c : Int) (w : World) :
    Calls Tryz.prog 116 #[.string s, .int .u8 c] w fun e w' => e = .returned (.int .i64 (Lib.indexByte s.data.toList c.toNat.toUInt8)) ∧ w' = w := by
  go_enter Tryz.func116, Tryz.ntmps116
  go_wp2
  rw [run_callFunc_extern Tryz.func124 (by kernel_rfl) (by kernel_rfl) (by kernel_rfl) (e := Extern.BytealgIndexByte.indexByte) (by kernel_rfl), Lib.run_indexByteString]
  simp only [Result.andThen]
  rw [Oper.upon_value]
  go_wp2
  go_ret
  exact ⟨rfl, rfl⟩
theorem idx_val : ∀ b : Fin 256, Lib.indexByte hexes.data.toList (UInt8.ofNat b.val) = if Cd.val (UInt8.ofNat b.val) < 16 then (Cd.val (UInt8.ofNat b.val) : Int) else -1 := by decide +kernel
def place (b : UInt8) : Int := if Cd.val b < 16 then (Cd.val b : Int) else -1
theorem place_of (b : UInt8) : Lib.indexByte hexes.data.toList b = place b := by
  have := idx_val ⟨b.toNat, b.toNat_lt⟩
  simp only [UInt8.ofNat_toNat] at this
  exact this
set_option maxHeartbeats 400000 in
theorem idx_any (b : UInt8) (w : World) :
    Calls Tryz.prog 104 #[.string hexes, .int .u8 (b.toNat : Int)] w fun e w' => e = .returned (.int .i64 (place b)) ∧ w' = w := by
  have e1 : ((b.toNat : Int)).toNat.toUInt8 = b := by simp
  have h := idx_in hexes (b.toNat : Int)
  rw [e1, place_of] at h
  have H := hideIt h
  clear h e1
  go_enter Tryz.func104, Tryz.ntmps104
  go_wp2_with (first | (go_at_call 116; refine (H.out _).mono ?_; rintro e w' ⟨rfl, rfl⟩))
  go_ret
  exact ⟨rfl, rfl⟩
end Go.Proofs.YtknmmlfdlfioiaaGreatDoor.Cb
