/- The document's letter of a digit, walked. -/
import Derived.Test.YtdbbgpcjclmelaaGreatDoorCbFew
namespace Go.Proofs.YtdbbgpcjclmelaaGreatDoor.Cb
open Go.RowKit
set_option maxHeartbeats 400000 in
theorem digit_any (n : Nat) (w : World) (hn : n < 16) :
    Calls Tryz.prog 52 #[.int .i64 (n : Int)] w fun e w' => e = .returned (.string (bs [Cd.dig n])) ∧ Below w.heap.size w w' := by
  by_cases h : n < 10
  · have h1 : (n : Int) < 10 := by omega
    have e : ((Cd.dig n).toNat : Int) = 48 + (n : Int) := by rw [Cd.dig, if_pos h, UInt8.toNat_ofNat']; omega
    have hcv := run_one (Cd.dig n) w
    rw [e] at hcv
    clear e
    go_enter Tryz.func52, Tryz.ntmps52
    go_wp2
    go_ret
    exact ⟨rfl, (Below.refl _ _).alloc (Nat.le_refl _) _⟩
  · have h1 : ¬ (n : Int) < 10 := by omega
    have h2 : (n : Int) < 16 := by omega
    have e : ((Cd.dig n).toNat : Int) = 87 + (n : Int) := by rw [Cd.dig, if_neg h, UInt8.toNat_ofNat']; omega
    have hcv := run_one (Cd.dig n) w
    rw [e] at hcv
    clear e
    go_enter Tryz.func52, Tryz.ntmps52
    go_wp2
    go_ret
    exact ⟨rfl, (Below.refl _ _).alloc (Nat.le_refl _) _⟩
end Go.Proofs.YtdbbgpcjclmelaaGreatDoor.Cb
