/- How many runes a text has, as the document's copy says it, walked. -/
import Derived.Test.YtmjffngpaoaflaaGreatDoorLbr
import Derived.Test.YtmjffngpaoaflaaGreatDoorLby
namespace Go.Proofs.YtmjffngpaoaflaaGreatDoor
open Go.RowKit
theorem cut_whole (s : ByteArray) : s.extract 0 s.size = s := by
  have : (s.extract 0 s.size).data.toList = s.data.toList := by
    have h : s.data.size = s.size := rfl
    rw [ByteArray.data_extract, ← h]
    simp
    rw [List.take_of_length_le (by simp)]
  rw [← bs_data (s.extract 0 s.size), this, bs_data]
theorem refV_neg (d : Nat × Nat) (h : Lb.isBad d = true) : Lb.refV d = -1 := by rw [Lb.refV, if_pos h]
theorem refV_pos (d : Nat × Nat) (h : Lb.isBad d = false) : ¬ Lb.refV d < 0 := by rw [Lb.refV, h]; simp
set_option maxHeartbeats 1600000 in
set_option maxRecDepth 100000 in
theorem refwords_any (s : ByteArray) (w : World) (hs : s.size ≤ 1000000) :
    Calls Tryz.prog 68 #[.string s] w fun e w' => e = .returned (.tuple #[.int .i64 (Lb.good s s.size 0 : Nat), .int .i64 (Lb.bad s s.size 0 : Nat)]) ∧ w' = w := by
  obtain ⟨n, hn⟩ : ∃ n, Lb.good s s.size 0 = n := ⟨_, rfl⟩
  obtain ⟨m, hm⟩ : ∃ m, Lb.bad s s.size 0 = m := ⟨_, rfl⟩
  rw [hn, hm]
  have HN := hideIt hn
  have HM := hideIt hm
  clear hn hm
  go_enter Tryz.func68, Tryz.ntmps68
  go_wp2
  go_loopw [0, 4, 5, 6, 7] (fun t u v _ _ wr => ∃ pos f a b : Nat, wr = w ∧ t = .string (s.extract pos s.size) ∧ u = .int .i64 a ∧ v = .int .i64 b ∧ a ≤ pos ∧ b ≤ pos ∧ pos ≤ s.size ∧ s.size ≤ pos + f ∧ a + Lb.good s f pos = n ∧ b + Lb.bad s f pos = m) (fun t _ _ _ _ _ => (match t with | .string u => u.size | _ => 0))
  case atStart => exact ⟨0, s.size, 0, 0, rfl, by rw [cut_whole], rfl, rfl, by omega, by omega, by omega, by omega, by rw [HN.out]; omega, by rw [HM.out]; omega⟩
  case round =>
    obtain ⟨pos, f, a, b, rfl, rfl, rfl, rfl, ha, hb, hpl, hf, h1, h2⟩ := hrel
    have htz := Lb.size_cut s pos
    have hdc := Lb.decode_cut s pos
    have hcc := Lb.cut_cut s pos
    obtain ⟨t, ht⟩ : ∃ t, s.extract pos s.size = t := ⟨_, rfl⟩
    rw [ht] at htz hdc hcc ⊢
    by_cases hp : pos < s.size
    · obtain ⟨g, hg, heb, heg⟩ := count_step hp hf h1 h2
      have hw := Lb.width_pos s pos hp
      have hwd := Lb.decode_width s pos hp
      have HB := hideIt (fun w => first_any t w (by omega) (by unfold maxLen; omega))
      have hneg := refV_neg (Utf8.decode s pos)
      have hpos := refV_pos (Utf8.decode s pos)
      rw [hdc] at HB
      obtain ⟨d, hd⟩ : ∃ d, Utf8.decode s pos = d := ⟨_, rfl⟩
      rw [hd] at hg heb heg hw hwd HB hneg hpos
      obtain ⟨x, k⟩ := d
      simp only at hg heb heg hw hwd HB hneg hpos
      obtain ⟨v, hv⟩ : ∃ v, Lb.refV (x, k) = v := ⟨_, rfl⟩
      rw [hv] at HB hneg hpos
      have HT := hideIt ht
      have HCC := hideIt (hcc k)
      have HEB := hideIt heb
      have HEG := hideIt heg
      have b2 : (a : Int) ≤ 1000000 := by omega
      have b3 : (b : Int) ≤ 1000000 := by omega
      have i1 : (0 : Int) < (t.size : Int) := by omega
      have i2 : (0 : Int) ≤ (k : Int) := by omega
      have i3 : (k : Int) ≤ (t.size : Int) := by omega
      have HTZ := hideIt htz
      clear htz hd heb heg hf hdc hcc hv ht h1 h2
      obtain ⟨y, hy⟩ : ∃ y, Lb.isBad (x, k) = y := ⟨_, rfl⟩
      cases y
      · have hvp := hpos hy
        have hvd : decide (v < 0) = false := by simp; omega
        have HE := hideIt (HEG.out hy)
        clear hs hpos hneg HEB HEG hy
        go_wp2_with (first | (go_at_call 88; refine (HB.out _).mono ?_; rintro e wx ⟨rfl, hwx⟩; obtain rfl := hwx.symm))
        go_roundw
        case rel => exact ⟨pos + k, g, a + 1, b, by first | rfl | trivial, by rw [HCC.out], by go_num, rfl, by omega, by omega, by omega, hg, HE.out.1, HE.out.2⟩
        case measure => simp; omega
      · have hvn := hneg hy
        have hvd : decide (v < 0) = true := by simp; omega
        clear hvn
        have HE := hideIt (HEB.out hy)
        clear hs hpos hneg HEB HEG hy
        go_wp2_with (first | (go_at_call 88; refine (HB.out _).mono ?_; rintro e wx ⟨rfl, hwx⟩; obtain rfl := hwx.symm))
        go_roundw
        case rel => exact ⟨pos + k, g, a, b + 1, by first | rfl | trivial, by rw [HCC.out], rfl, by go_num, by omega, by omega, by omega, hg, HE.out.1, HE.out.2⟩
        case measure => simp; omega
    · have z0 : t.size = 0 := by omega
      have i1 : ¬ (0 : Int) < (t.size : Int) := by omega
      have e1 : a = n := by rw [Lb.good, Lb.runes_end s f pos hp] at h1; simpa using h1
      have e2 : b = m := by rw [Lb.bad, Lb.runes_end s f pos hp] at h2; simpa using h2
      subst e1 e2
      clear h1 h2 HN HM hcc hdc ht
      go_wp2
      go_ret2
      exact ⟨rfl, rfl⟩
end Go.Proofs.YtmjffngpaoaflaaGreatDoor
