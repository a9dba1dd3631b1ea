/- A frame of a text, walked: the program's and the document's; a copy of a text. -/
import Derived.Test.YtknmmlfdlfioiaaGreatDoorCbFour
import Derived.Test.YtknmmlfdlfioiaaGreatDoorCbRefm
namespace Go.Proofs.YtknmmlfdlfioiaaGreatDoor.Cb
open Go.RowKit
/-- A frame: the text's length, the text, the check of both. -/
def frameL (l : List UInt8) : List UInt8 := (Cd.numL l.length ++ l) ++ told (Cd.numL l.length ++ l)
theorem numL_len (n : Nat) (h : n < 128 ^ 10) : (Cd.numL n).length ≤ 10 := by
  rw [Cd.numL, List.length_reverse, Cd.numR, List.length_cons]
  have := Cd.more_len 9 n h
  omega
set_option maxHeartbeats 400000 in
set_option maxRecDepth 100000 in
theorem frame_any (s : ByteArray) (w : World) (hK : KAt w) (hs : s.size ≤ 100000) :
    Calls Tryz.prog 23 #[.string s] w fun e w' => e = .returned (.string (bs (frameL s.data.toList))) ∧ Below w.heap.size w w' := by
  have HK := hideIt hK
  obtain ⟨n, hn⟩ : ∃ n, s.size = n := ⟨_, rfl⟩
  have hni : (s.size : Int) = (n : Int) := by rw [hn]
  have HN := hideIt (fun w => num_any n w (by omega))
  obtain ⟨a, ha⟩ : ∃ a, bs (Cd.numL n) = a := ⟨_, rfl⟩
  rw [ha] at HN
  have asz : a.size ≤ 10 := by rw [← ha, bs_size]; exact numL_len n (by omega)
  obtain ⟨b, hb⟩ : ∃ b, bs (told (a ++ s).data.toList) = b := ⟨_, rfl⟩
  have HC := hideIt (fun w hK => checktext_any (a ++ s) w hK (by rw [ByteArray.size_append]; omega))
  rw [hb] at HC
  have sb : b.size ≤ 4 := by rw [← hb, bs_size, told_len]; omega
  have t1 : ¬ 9223372036854775807 < a.size + s.size := by omega
  have t2 : ¬ 9223372036854775807 < a.size + s.size + b.size := by omega
  have HE : Hid (bs (frameL s.data.toList) = a ++ s ++ b) := by
    refine hideIt ?_
    have e : (a ++ s).data.toList = Cd.numL s.data.toList.length ++ s.data.toList := by rw [cat_data, ← ha, bs_list, str_len, hn]
    rw [← bs_data (a ++ s ++ b), cat_data, e, ← hb, bs_list, e]
    rfl
  have n1 : (n : Int) ≤ 100000 := by omega
  clear ha hb hK hn
  go_enter Tryz.func23, Tryz.ntmps23
  go_wp2_with (first | (go_at_call 44; refine (HN.out _).mono ?_; rintro e w1 ⟨rfl, hb1⟩) | (go_at_call 45; refine (HC.out _ (K_below hb1 HK.out)).mono ?_; rintro e w2 ⟨rfl, hb2⟩))
  go_ret
  exact ⟨by rw [HE.out]; rfl, below2 hb1 hb2⟩
set_option maxHeartbeats 400000 in
theorem clone_any (s : ByteArray) (w : World) (hs : s.size ≤ 100000000) :
    Calls Tryz.prog 66 #[.string s] w fun e w' => e = .returned (.string s) ∧ Below w.heap.size w w' := by
  have HC := hideIt (fun w => Tryz.stringslite_Clone s w (by omega))
  go_enter Tryz.func66, Tryz.ntmps66
  go_wp2_with (first | (go_at_call 86; refine (HC.out _).mono ?_; rintro e w1 ⟨rfl, hb1⟩))
  go_ret
  exact ⟨rfl, hb1⟩
end Go.Proofs.YtknmmlfdlfioiaaGreatDoor.Cb
