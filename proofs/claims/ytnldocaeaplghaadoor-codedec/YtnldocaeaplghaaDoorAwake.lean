/- The laws' own look that the program is awake, walked. -/
import Derived.Test.YtnldocaeaplghaaDoorUnnumw
import Derived.Test.YtnldocaeaplghaaDoorHexw
namespace Go.Proofs.YtnldocaeaplghaaDoor
open Go.RowKit
theorem num300 : Cd.numL 300 = [129, 44] := by
  rw [Cd.numL, Cd.numR, Cd.more_big (by omega), Cd.more_small (by omega)]; rfl
theorem num128 : Cd.numL 128 = [128, 0] := by
  rw [Cd.numL, Cd.numR, Cd.more_big (by omega), Cd.more_small (by omega)]; rfl
set_option maxHeartbeats 800000 in
set_option maxRecDepth 100000 in
theorem awake_any (w : World) : Calls Tryd.prog 7 #[] w fun e w' => e = .returned (.bool true) ∧ Below w.heap.size w w' := by
  obtain ⟨a, ha⟩ : ∃ a, bs (Cd.numL 300) = a := ⟨_, rfl⟩
  obtain ⟨b, hb⟩ : ∃ b, bs (Cd.numL 128) = b := ⟨_, rfl⟩
  obtain ⟨c, hc⟩ : ∃ c, bs (Cd.hexL [171]) = c := ⟨_, rfl⟩
  have HA := hideIt (fun w => num_any 300 w (by omega))
  have HB := hideIt (fun w => num_any 128 w (by omega))
  have HC : Hid (∀ w, Calls Tryd.prog 15 #[.string ⟨#[171]⟩] w fun e w' => e = .returned (.string c) ∧ Below w.heap.size w w') := by
    refine hideIt (fun w => ?_)
    rw [← hc]
    exact hex_any ⟨#[171]⟩ w (by decide)
  rw [ha] at HA
  rw [hb] at HB
  rw [num300] at ha
  rw [num128] at hb
  have HU : Hid (∀ w, Calls Tryd.prog 13 #[.string (a ++ ⟨#[120]⟩)] w fun e w' => e = .returned (.tuple #[.int .u64 300, .int .i64 2, .int .i64 0]) ∧ w' = w) := by
    refine hideIt (fun w => ?_)
    have := unnum_any (a ++ ⟨#[120]⟩) w (by rw [← ha]; decide)
    have e : Cd.unnum (a ++ ⟨#[120]⟩).data.toList = (300, 2, 0) := by rw [← ha]; decide
    rw [e] at this
    exact this
  have s1 : a.size ≤ 2 := by rw [← ha]; decide
  have s2 : ¬ 9223372036854775807 < a.size + 1 := by omega
  have q1 : (b.toList == [128, 0]) = true := by rw [← hb, ByteArray.toList_eq]; decide
  have q2 : (c.toList == [97, 98]) = true := by rw [← hc, ByteArray.toList_eq]; decide
  clear ha hb hc
  go_enter Tryd.func7, Tryd.ntmps7
  go_wp2_with (first | (go_at_call_of 14 (Value.int .u64 300); refine (HA.out _).mono ?_; rintro e w1 ⟨rfl, hb1⟩) | (go_at_call 13; refine (HU.out _).mono ?_; rintro e w2 ⟨rfl, rfl⟩) | (go_at_call_of 14 (Value.int .u64 128); refine (HB.out _).mono ?_; rintro e w3 ⟨rfl, hb3⟩) | (go_at_call 15; refine (HC.out _).mono ?_; rintro e w4 ⟨rfl, hb4⟩))
  go_ret
  exact ⟨rfl, below2 hb1 (below2 hb3 hb4)⟩
end Go.Proofs.YtnldocaeaplghaaDoor
