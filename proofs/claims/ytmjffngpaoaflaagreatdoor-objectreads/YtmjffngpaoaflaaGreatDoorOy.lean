/- The document's look at a text, walked. -/
import Derived.Test.YtmjffngpaoaflaaGreatDoorOt
import Derived.Test.YtmjffngpaoaflaaGreatDoorLbAll
namespace Go.Proofs.YtmjffngpaoaflaaGreatDoor
namespace Ob
open Go.RowKit Go.Shelf
set_option maxHeartbeats 400000 in
theorem reftext_any (s : ByteArray) (w : World) (hs : s.size ≤ 1000000) : Calls Tryz.prog 36 #[.string s] w fun e w' => e = .returned (.bool (textB s)) ∧ w = w' := by
  have HW : Hid (Calls Tryz.prog 68 #[.string s] w fun e w' => e = .returned (.tuple #[.int .i64 (Lb.good s s.size 0 : Nat), .int .i64 (Lb.bad s s.size 0 : Nat)]) ∧ w = w') := hideIt ((refwords_any s w hs).mono fun _ _ h => ⟨h.1, h.2.symm⟩)
  have HT : Hid (textB s = (decide (s.size ≤ 4096) && decide (Lb.bad s s.size 0 = 0))) := rfl
  obtain ⟨g, hg⟩ : ∃ g, Lb.good s s.size 0 = g := ⟨_, rfl⟩
  obtain ⟨b, hb⟩ : ∃ b, Lb.bad s s.size 0 = b := ⟨_, rfl⟩
  rw [hg, hb] at HW
  rw [hb] at HT
  clear hg hb hs
  by_cases h : s.size ≤ 4096
  · have h1 : (s.size : Int) ≤ 4096 := by omega
    rw [decide_eq_true h, Bool.true_and] at HT
    by_cases hz : b = 0
    · rw [decide_eq_true hz] at HT
      have hz1 : ((b : Int) == 0) = true := by simp [hz]
      go_enter Tryz.func36, Tryz.ntmps36
      go_wp2_with (first | (go_at_call 68; refine HW.out.mono ?_; rintro e w1 ⟨rfl, rfl⟩))
      go_ret
      exact ⟨by rw [HT.out] <;> simp, rfl⟩
    · rw [decide_eq_false hz] at HT
      have hz1 : ((b : Int) == 0) = false := by simpa using hz
      go_enter Tryz.func36, Tryz.ntmps36
      go_wp2_with (first | (go_at_call 68; refine HW.out.mono ?_; rintro e w1 ⟨rfl, rfl⟩))
      go_ret
      exact ⟨by rw [HT.out] <;> simp, rfl⟩
  · have h1 : ¬ (s.size : Int) ≤ 4096 := by omega
    rw [decide_eq_false h, Bool.false_and] at HT
    go_enter Tryz.func36, Tryz.ntmps36
    go_wp2_with (first | (go_at_call 68; refine HW.out.mono ?_; rintro e w1 ⟨rfl, rfl⟩))
    go_ret
    exact ⟨by rw [HT.out] <;> rfl, rfl⟩
end Ob
end Go.Proofs.YtmjffngpaoaflaaGreatDoor
