/- The law of pressing, walked. -/
import Derived.Test.YtmohnlebkppgfaaLdRefp4
import Derived.Test.YtmohnlebkppgfaaLdAwk4
import Derived.Test.YtmohnlebkppgfaaLdFewl
namespace Go.Proofs.Ytmohnlebkppgfaa.Ld
open Cb
open Go.RowKit
set_option maxHeartbeats 800000 in
set_option maxRecDepth 100000 in
theorem presses_law (s : ByteArray) (w : World) (hs : s.size ≤ maxLen) :
    Calls Try.prog 3 #[.string s] w fun e w' => e = .returned (.bool true) ∧ Below w.heap.size w w' := by
  have HF := hideIt (fun w => few_any s w hs)
  have hfs := fewS_size s
  obtain ⟨t, ht⟩ : ∃ t, fewS s = t := ⟨_, rfl⟩
  rw [ht] at HF hfs
  have HP := hideIt (fun w => press_any t w (by omega))
  have HR := hideIt (fun w => refpress_any t w (by omega))
  obtain ⟨p, hp⟩ : ∃ p, bs (Lz.press t.data.toList) = p := ⟨_, rfl⟩
  have HS := hideIt (fun w => spread_again t.data.toList p (t.size : Int) w hp (by rw [str_len]; omega) (by rw [str_len]; omega))
  rw [hp] at HP HR
  rw [bs_data] at HS
  have HA := hideIt awake_any
  have q1 : (p.toList == p.toList) = true := by simp
  have q2 : (t.toList == t.toList) = true := by simp
  have tI : (t.size : Int) ≤ 600 := by omega
  clear ht hp hs
  go_enter Try.func3, Try.ntmps3
  go_wp2_with (first | (go_at_call 8; refine (HF.out _).mono ?_; rintro e wx ⟨rfl, hwx⟩; obtain rfl := hwx.symm) | (go_at_call 7; refine (HP.out _).mono ?_; rintro e w1 ⟨rfl, hb1⟩) | (go_at_call 9; refine (HS.out _).mono ?_; rintro e w2 ⟨rfl, hb2⟩) | (go_at_call 10; refine (HA.out _).mono ?_; rintro e w3 ⟨rfl, hb3⟩) | (go_at_call 11; refine (HR.out _).mono ?_; rintro e w4 ⟨rfl, hb4⟩))
  go_ret
  exact ⟨rfl, below2 hb1 (below2 hb2 (below2 hb3 hb4))⟩
end Go.Proofs.Ytmohnlebkppgfaa.Ld
