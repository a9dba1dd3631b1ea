/- The laws of making and applying, walked. -/
import Derived.Test.YtflkpkfjeljnmaaDeDlf
namespace Go.Proofs.Ytflkpkfjeljnmaa.De
open Cb
open Go.RowKit
set_option maxHeartbeats 800000 in
set_option maxRecDepth 100000 in
theorem makes_law (b s : ByteArray) (w : World) (hb : b.size ≤ maxLen) (hs : s.size ≤ maxLen) :
    Calls Try.prog 3 #[.string b, .string s] w fun e w' => e = .returned (.bool true) ∧ Below w.heap.size w w' := by
  have HF1 := hideIt (fun w => few9_any b w hb)
  have HF2 := hideIt (fun w => few9_any s w hs)
  have f1 := few9_size b
  have f2 := few9_size s
  obtain ⟨B, hB⟩ : ∃ t, few9 b = t := ⟨_, rfl⟩
  obtain ⟨S, hS⟩ : ∃ t, few9 s = t := ⟨_, rfl⟩
  rw [hB] at HF1 f1
  rw [hS] at HF2 f2
  have l1 : B.data.toList.length ≤ 400 := by rw [str_len]; exact f1
  have l2 : S.data.toList.length ≤ 400 := by rw [str_len]; exact f2
  have ml := Dl.make_len B.data.toList S.data.toList (by omega) (by omega)
  have HM := hideIt (fun w => make_any B.data.toList S.data.toList w (by omega) (by omega))
  have HR := hideIt (fun w => refmake_any B.data.toList S.data.toList w (by omega) (by omega))
  have HA := hideIt (fun w => apply_made B.data.toList B.data.toList S.data.toList (S.size : Int) w (by omega) (by omega) (by omega) (by omega) (by omega))
  rw [Dl.app_make _ _ _ (by omega) (by omega) (by rw [str_len]; omega)] at HA
  obtain ⟨d, hd⟩ : ∃ d, bs (Dl.make B.data.toList S.data.toList) = d := ⟨_, rfl⟩
  simp only [bs_data] at HA
  rw [hd] at HA
  simp only [bs_data] at HM HR
  rw [hd] at HM HR
  have HW := hideIt awake9_any
  have q1 : (d.toList == d.toList) = true := by simp
  have q2 : (S.toList == S.toList) = true := by simp
  have sI : (S.size : Int) ≤ 400 := by omega
  clear hB hS hd hb hs ml l1 l2 f1 f2
  go_enter Try.func3, Try.ntmps3
  go_wp2_with (first | (go_at_call_of 7 (Value.string b); refine (HF1.out _).mono ?_; rintro e wx ⟨rfl, hwx⟩; obtain rfl := hwx.symm) | (go_at_call_of 7 (Value.string s); refine (HF2.out _).mono ?_; rintro e wx ⟨rfl, hwx⟩; obtain rfl := hwx.symm) | (go_at_call 6; refine (HM.out _).mono ?_; rintro e w1 ⟨rfl, hb1⟩) | (go_at_call 8; refine (HA.out _).mono ?_; rintro e w2 ⟨rfl, hb2⟩) | (go_at_call 9; refine (HW.out _).mono ?_; rintro e w3 ⟨rfl, hb3⟩) | (go_at_call 10; refine (HR.out _).mono ?_; rintro e w4 ⟨rfl, hb4⟩))
  go_ret
  exact ⟨rfl, below2 hb1 (below2 hb2 (below2 hb3 hb4))⟩
end Go.Proofs.Ytflkpkfjeljnmaa.De
