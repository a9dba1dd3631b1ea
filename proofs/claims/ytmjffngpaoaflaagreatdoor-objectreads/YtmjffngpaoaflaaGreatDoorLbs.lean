/- Names and runes as the document's copy has them, walked. -/
import Derived.Test.YtmjffngpaoaflaaGreatDoorLbr
import Derived.Test.YtmjffngpaoaflaaGreatDoorLbw
namespace Go.Proofs.YtmjffngpaoaflaaGreatDoor
open Go.RowKit
theorem cut_all (s : ByteArray) : s.extract 0 s.size = s := by
  have : (s.extract 0 s.size).data.toList = s.data.toList := by
    have h : s.data.size = s.size := rfl
    rw [ByteArray.data_extract, ← h]
    simp
    rw [List.take_of_length_le (by simp)]
  rw [← bs_data (s.extract 0 s.size), this, bs_data]
set_option maxHeartbeats 1600000 in
set_option maxRecDepth 100000 in
theorem refname_any (s : ByteArray) (w : World) (hs : s.size ≤ maxLen) :
    Calls Tryz.prog 67 #[.string s] w fun e w' => e = .returned (.bool (Lb.nameB s)) ∧ w' = w := by
  obtain ⟨e1, e2, e3, e4⟩ := seg_cmp s
  have HN := hideIt (noName_of s rfl rfl rfl rfl)
  have HD : Hid (Lb.nameB s = (!Lb.noName s.data.toList && (Lb.runes s).all (fun d => !Lb.bar d.1))) := rfl
  rw [HN.out] at HD
  clear HN
  obtain ⟨m, hm⟩ : ∃ m : Int, (s.size : Int) = m := ⟨_, rfl⟩
  rw [hm] at HD
  generalize hx1 : (s.data.toList == []) = x1 at *
  generalize hx2 : (s.data.toList == [46]) = x2 at *
  generalize hx3 : (s.data.toList == [46, 46]) = x3 at *
  generalize hx4 : decide ((64 : Int) < m) = x4 at *
  clear hx1 hx2 hx3
  cases x1 <;> cases x4 <;> cases x2 <;> cases x3
  case false.false.false.false =>
    have HD' : Hid (Lb.nameB s = (Lb.runes s).all (fun d => !Lb.bar d.1)) := hideIt (by rw [HD.out]; simp)
    clear HD
    go_enter Tryz.func67, Tryz.ntmps67
    go_wp2
    go_loopw [0, 3, 4] (fun t _ _ wr => ∃ pos f : Nat, wr = w ∧ t = .string (s.extract pos s.size) ∧ pos ≤ s.size ∧ s.size ≤ pos + f ∧ (Lb.runesF s f pos).all (fun d => !Lb.bar d.1) = Lb.nameB s) (fun t _ _ _ => (match t with | .string u => u.size | _ => 0))
    case atStart => exact ⟨0, s.size, rfl, by rw [cut_all], by omega, by omega, by rw [HD'.out]; rfl⟩
    case round =>
      obtain ⟨pos, f, rfl, rfl, hpl, hf, hr⟩ := hrel
      have htz := Lb.size_cut s pos
      have hdc := Lb.decode_cut s pos
      have hcc := Lb.cut_cut s pos
      clear e1 e2 e3 e4 hm
      obtain ⟨t, ht⟩ : ∃ t, s.extract pos s.size = t := ⟨_, rfl⟩
      rw [ht] at htz hdc hcc ⊢
      by_cases hp : pos < s.size
      · obtain ⟨g, hg, he⟩ := all_step hp hf hr
        have hw := Lb.width_pos s pos hp
        have hwd := Lb.decode_width s pos hp
        have HB := hideIt (fun w => first_any t w (by omega) (by omega))
        have hbr := barI_ref (Utf8.decode s pos)
        rw [hdc] at HB
        obtain ⟨d, hd⟩ : ∃ d, Utf8.decode s pos = d := ⟨_, rfl⟩
        rw [hd] at hg he hw hwd HB hbr
        obtain ⟨x, k⟩ := d
        simp only at hg he hw hwd HB hbr
        obtain ⟨v, hv⟩ : ∃ v, Lb.refV (x, k) = v := ⟨_, rfl⟩
        rw [hv] at HB hbr
        have HE := hideIt he
        have HR := hideIt hbr
        have HT := hideIt ht
        have HCC := hideIt (hcc k)
        clear hd he hr hf hdc hcc hv hbr ht
        have i1 : (0 : Int) < (t.size : Int) := by omega
        have i2 : (0 : Int) ≤ (k : Int) := by omega
        have i3 : (k : Int) ≤ (t.size : Int) := by omega
        have HTZ := hideIt htz
        clear htz
        rcases bar_cases v with H | H | H | H | H | H
        all_goals (have HBV := hideIt (barI_of H); obtain ⟨q1, q2, q3, q4, q5⟩ := H; rw [HR.out] at HBV)
        all_goals go_wp2_with (first | (go_at_call 88; refine (HB.out _).mono ?_; rintro e wx ⟨rfl, hwx⟩; obtain rfl := hwx.symm))
        all_goals first
          | (go_ret; exact ⟨by rw [← HE.out, HBV.out]; rfl, rfl⟩)
          | (go_roundw
             case rel => exact ⟨pos + k, g, by first | rfl | trivial, by rw [HCC.out], by omega, hg, by rw [← HE.out, HBV.out]; rfl⟩
             case measure => simp; omega)
      · have z0 : t.size = 0 := by omega
        have i1 : ¬ (0 : Int) < (t.size : Int) := by omega
        have HE := hideIt hr
        clear hr hcc hdc ht
        go_wp2
        go_ret
        exact ⟨by rw [← HE.out, Lb.runes_end s f pos hp]; rfl, rfl⟩
  all_goals
    have HD' : Hid (Lb.nameB s = false) := hideIt (by rw [HD.out]; simp)
    clear HD
    go_enter Tryz.func67, Tryz.ntmps67
    go_wp2
    go_ret
    exact ⟨by rw [HD'.out]; try rfl, rfl⟩
end Go.Proofs.YtmjffngpaoaflaaGreatDoor
