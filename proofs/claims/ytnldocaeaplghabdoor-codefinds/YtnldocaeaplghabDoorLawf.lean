/- The laws of frames, walked. -/
import Derived.Test.YtnldocaeaplghabDoorRefuf
namespace Go.Proofs.YtnldocaeaplghabDoor
open Go.RowKit
theorem told_take (l r : List UInt8) : ((l ++ told l) ++ r).drop l.length = told l ++ r ∧ ((l ++ told l) ++ r).take l.length = l := by
  rw [List.append_assoc]
  exact ⟨List.drop_left, List.take_left⟩
/-- A frame is read again, whatever stands behind. -/
theorem frame_back (l r : List UInt8) (h : l.length ≤ 300) : unframe (frameL l ++ r) = (l, (frameL l).length, 0) := by
  obtain ⟨m, hm⟩ : ∃ m, Cd.numL l.length = m := ⟨_, rfl⟩
  have hu : Cd.unnum (frameL l ++ r) = (l.length, m.length, 0) := by
    have := Cd.unnum_num l.length (by omega) (l ++ told (m ++ l) ++ r)
    rw [hm] at this
    rw [← this, frameL, hm]
    simp [List.append_assoc]
  have hf : frameL l = (m ++ l) ++ told (m ++ l) := by rw [frameL, hm]
  have hl : (m ++ l).length = m.length + l.length := List.length_append
  have ht := told_take (m ++ l) r
  rw [hl, ← hf] at ht
  have hlen : (frameL l).length = m.length + l.length + 4 := by rw [hf, List.length_append, hl, told_len]
  have h4 : (told (m ++ l) ++ r).take 4 = told (m ++ l) := by
    rw [show (4 : Nat) = (told (m ++ l)).length from rfl]; exact List.take_left
  have hd : (frameL l ++ r).drop m.length = l ++ (told (m ++ l) ++ r) := by rw [hf]; simp [List.append_assoc]
  have hlong : ¬ (frameL l ++ r).length < m.length + l.length + 4 := by rw [List.length_append, hlen]; omega
  have hmuch : ¬ 2097152 < l.length := by omega
  simp only [unframe, hu, ne_eq, not_true, if_false, hmuch, hlong, ht.1, ht.2, h4, hd, List.take_left, hlen]
theorem ufV_mk (t : List UInt8) (k c : Nat) : ufV (t, k, c) = .tuple #[.string (bs t), .int .i64 (k : Int), .int .i64 (c : Int)] := rfl
theorem ufV_ok (t : List UInt8) (k : Nat) : ufV (t, k, 0) = .tuple #[.string (bs t), .int .i64 (k : Int), .int .i64 0] := rfl
set_option maxHeartbeats 800000 in
set_option maxRecDepth 100000 in
theorem frames_law (s m : ByteArray) (w : World) (hs : s.size ≤ maxLen) (hm : m.size ≤ maxLen) (hK : KAt w) :
    Calls Tryd.prog 4 #[.string s, .string m] w fun e w' => e = .returned (.bool true) ∧ Below w.heap.size w w' := by
  have HK := hideIt hK
  have hf := fewS_size s
  have hg := fewS_size m
  have HF := hideIt (fun w => flipC (few_any s w hs))
  have HG := hideIt (fun w => flipC (few_any m w hm))
  obtain ⟨f, hfe⟩ : ∃ f, fewS s = f := ⟨_, rfl⟩
  obtain ⟨g, hge⟩ : ∃ g, fewS m = g := ⟨_, rfl⟩
  rw [hfe] at hf HF
  rw [hge] at hg HG
  have HA := hideIt awake_any
  have HR := hideIt (fun w hK => frame_any f w hK (by omega))
  have HS := hideIt (fun w => refframe_any f w (by omega))
  obtain ⟨a, ha⟩ : ∃ a, bs (frameL f.data.toList) = a := ⟨_, rfl⟩
  rw [ha] at HR HS
  have asz : a.size ≤ 314 := by
    rw [← ha, bs_size, frameL, List.length_append, told_len, List.length_append, str_len]
    have := numL_len f.size (by omega)
    omega
  have t1 : ¬ 9223372036854775807 < a.size + g.size := by omega
  have HU := hideIt (fun w hK => unframe_any (a ++ g) w hK (by rw [ByteArray.size_append]; omega))
  have e1 : unframe (a ++ g).data.toList = (f.data.toList, a.size, 0) := by
    rw [cat_data, ← ha, bs_list, frame_back _ _ (by rw [str_len]; omega), bs_size]
  rw [e1, ufV_ok, bs_data] at HU
  have q1 : (a.toList == a.toList) = true := by simp
  have q2 : (f.toList == f.toList) = true := by simp
  clear hfe hge hs hm hK ha e1
  go_enter Tryd.func4, Tryd.ntmps4
  go_wp2_with (first | (go_at_call_of 6 (Value.string s); refine (HF.out _).mono ?_; rintro e w0 ⟨rfl, rfl⟩) | (go_at_call_of 6 (Value.string m); refine (HG.out _).mono ?_; rintro e w0 ⟨rfl, rfl⟩) | (go_at_call 10; refine (HR.out _ HK.out).mono ?_; rintro e w1 ⟨rfl, hb1⟩) | (go_at_call 11; refine (HU.out _ (K_below hb1 HK.out)).mono ?_; rintro e w2 ⟨rfl, hb2⟩) | (go_at_call 7; refine (HA.out _).mono ?_; rintro e w3 ⟨rfl, hb3⟩) | (go_at_call 12; refine (HS.out _).mono ?_; rintro e w4 ⟨rfl, hb4⟩))
  go_ret
  exact ⟨rfl, by repeat (first | assumption | (refine below2 (by assumption) ?_))⟩
set_option maxHeartbeats 800000 in
set_option maxRecDepth 100000 in
theorem finds_law (s : ByteArray) (w : World) (hs : s.size ≤ maxLen) (hK : KAt w) :
    Calls Tryd.prog 5 #[.string s] w fun e w' => e = .returned (.bool true) ∧ Below w.heap.size w w' := by
  have HK := hideIt hK
  have hf := fewS_size s
  have HF := hideIt (fun w => flipC (few_any s w hs))
  obtain ⟨f, hfe⟩ : ∃ f, fewS s = f := ⟨_, rfl⟩
  rw [hfe] at hf HF
  have HA := hideIt awake_any
  have HU := hideIt (fun w hK => unframe_any f w hK (by omega))
  have HR := hideIt (fun w => refunframe_any f w (by omega))
  obtain ⟨t, k, c, e1⟩ : ∃ t k c, unframe f.data.toList = (t, k, c) := ⟨_, _, _, rfl⟩
  obtain ⟨x, hx⟩ : ∃ x, bs t = x := ⟨_, rfl⟩
  rw [e1, ufV_mk, hx] at HU HR
  have q1 : (x.toList == x.toList) = true := by simp
  clear hfe hs hK hx e1
  go_enter Tryd.func5, Tryd.ntmps5
  go_wp2_with (first | (go_at_call 6; refine (HF.out _).mono ?_; rintro e w0 ⟨rfl, rfl⟩) | (go_at_call 11; refine (HU.out _ HK.out).mono ?_; rintro e w2 ⟨rfl, hb2⟩) | (go_at_call 7; refine (HA.out _).mono ?_; rintro e w3 ⟨rfl, hb3⟩) | (go_at_call 13; refine (HR.out _).mono ?_; rintro e w4 ⟨rfl, hb4⟩))
  go_ret
  exact ⟨rfl, by repeat (first | assumption | (refine below2 (by assumption) ?_))⟩
theorem frames_z (s m : ByteArray) (w : World) (hs : s.size ≤ maxLen) (hm : m.size ≤ maxLen) (hK : KAt w) : Calls Tryd.prog 4 #[.string s, .string m] w fun e w' => e = .returned (.bool true) ∧ Below w.heap.size w w' := frames_law s m w hs hm hK
end Go.Proofs.YtnldocaeaplghabDoor
