/- The laws on names, on refs' names and on runes, walked. -/
import Derived.Test.YtgbmfhbodfmpbaaLbawk
import Derived.Test.YtgbmfhbodfmpbaaLbt
import Derived.Test.YtgbmfhbodfmpbaaLbu
namespace Go.Proofs.Ytgbmfhbodfmpbaa
open Go.RowKit
set_option maxHeartbeats 800000 in
set_option maxRecDepth 100000 in
theorem names_law (s : ByteArray) (w : World) (hs : s.size ≤ maxLen) :
    Calls Try.prog 3 #[.string s] w fun e w' => e = .returned (.bool true) ∧ Below w.heap.size w w' := by
  have HF := hideIt (fun w => few_any s w hs)
  have hfs := fewS_size s
  obtain ⟨t, ht⟩ : ∃ t, fewS s = t := ⟨_, rfl⟩
  rw [ht] at HF hfs
  have HP := hideIt (fun w => name_any t w)
  have HR := hideIt (fun w => refname_any t w (by unfold maxLen; omega))
  have HA := hideIt awake_any
  generalize Lb.nameB t = b at *
  clear ht hs
  cases b
  all_goals
    go_enter Try.func3, Try.ntmps3
    go_wp2_with (first | (go_at_call 8; refine (HF.out _).mono ?_; rintro e wx ⟨rfl, hwx⟩; obtain rfl := hwx.symm) | (go_at_call 7; refine (HP.out _).mono ?_; rintro e w1 ⟨rfl, hb1⟩) | (go_at_call 6; refine (HA.out _).mono ?_; rintro e w3 ⟨rfl, hb3⟩) | (go_at_call 9; refine (HR.out _).mono ?_; rintro e wy ⟨rfl, hwy⟩; obtain rfl := hwy.symm))
    go_ret
    exact ⟨rfl, below2 hb3 hb1⟩
set_option maxHeartbeats 800000 in
set_option maxRecDepth 100000 in
theorem refs_law (s : ByteArray) (w : World) (hs : s.size ≤ maxLen) :
    Calls Try.prog 4 #[.string s] w fun e w' => e = .returned (.bool true) ∧ Below w.heap.size w w' := by
  have HF := hideIt (fun w => few_any s w hs)
  have hfs := fewS_size s
  obtain ⟨t, ht⟩ : ∃ t, fewS s = t := ⟨_, rfl⟩
  rw [ht] at HF hfs
  have HP := hideIt (fun w => ref_any t w)
  have HH := hideIt (fun w => head_any t w)
  have HR := hideIt (fun w => refref_any t w (by omega))
  have HA := hideIt awake_any
  obtain ⟨k1, k2⟩ := refK_says t
  rw [k1] at HP
  rw [k2] at HH
  clear k1 k2
  have hk : refK t = 0 ∨ refK t = 1 ∨ refK t = 2 := by unfold refK; repeat' split
                                                       all_goals omega
  generalize refK t = k at *
  clear ht hs
  rcases hk with rfl | rfl | rfl
  all_goals
    simp only [Int.lt_irrefl, Int.reduceLT, decide_true, decide_false, Int.reduceBEq] at HP HH
    go_enter Try.func4, Try.ntmps4
    go_wp2_with (first | (go_at_call 8; refine (HF.out _).mono ?_; rintro e wx ⟨rfl, hwx⟩; obtain rfl := hwx.symm) | (go_at_call 11; refine (HP.out _).mono ?_; rintro e w1 ⟨rfl, hb1⟩) | (go_at_call 12; refine (HH.out _).mono ?_; rintro e w2 ⟨rfl, hb2⟩) | (go_at_call 6; refine (HA.out _).mono ?_; rintro e w3 ⟨rfl, hb3⟩) | (go_at_call 10; refine (HR.out _).mono ?_; rintro e w4 ⟨rfl, hb4⟩))
    go_ret
    exact ⟨rfl, below2 hb4 (below2 hb3 (below2 hb1 hb2))⟩
set_option maxHeartbeats 800000 in
set_option maxRecDepth 100000 in
theorem words_law (s : ByteArray) (w : World) (hs : s.size ≤ maxLen) :
    Calls Try.prog 5 #[.string s] w fun e w' => e = .returned (.bool true) ∧ Below w.heap.size w w' := by
  have HF := hideIt (fun w => few_any s w hs)
  have hfs := fewS_size s
  obtain ⟨t, ht⟩ : ∃ t, fewS s = t := ⟨_, rfl⟩
  rw [ht] at HF hfs
  have HP := hideIt (fun w => words_any t w (by unfold maxLen; omega))
  have HR := hideIt (fun w => refwords_any t w (by omega))
  have HA := hideIt awake_any
  generalize Lb.good t t.size 0 = n at *
  generalize Lb.bad t t.size 0 = m at *
  clear ht hs
  go_enter Try.func5, Try.ntmps5
  go_wp2_with (first | (go_at_call 8; refine (HF.out _).mono ?_; rintro e wx ⟨rfl, hwx⟩; obtain rfl := hwx.symm) | (go_at_call 13; refine (HP.out _).mono ?_; rintro e w1 ⟨rfl, hb1⟩) | (go_at_call 6; refine (HA.out _).mono ?_; rintro e w3 ⟨rfl, hb3⟩) | (go_at_call 14; refine (HR.out _).mono ?_; rintro e wy ⟨rfl, hwy⟩; obtain rfl := hwy.symm))
  go_ret
  exact ⟨rfl, below2 hb1 hb3⟩
end Go.Proofs.Ytgbmfhbodfmpbaa
