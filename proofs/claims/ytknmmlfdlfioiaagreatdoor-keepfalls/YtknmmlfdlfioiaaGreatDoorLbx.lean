/- How many runes a text has, and which texts may be refs' names, as the program says it, walked. -/
import Derived.Test.YtknmmlfdlfioiaaGreatDoorLbw
namespace Go.Proofs.YtknmmlfdlfioiaaGreatDoor
open Go.RowKit
/-- Does a text begin with another one? -/
def pre (a p : ByteArray) : Bool := decide (p.size ≤ a.size) && ((a.extract 0 p.size).toList == p.toList)
set_option maxHeartbeats 400000 in
theorem slpre_any (a p : ByteArray) (w : World) :
    Calls Tryz.prog 125 #[.string a, .string p] w fun e w' => e = .returned (.bool (pre a p)) ∧ w' = w := by
  obtain ⟨n, hn⟩ : ∃ n, a.size = n := ⟨_, rfl⟩
  obtain ⟨m, hm⟩ : ∃ m, p.size = m := ⟨_, rfl⟩
  have hn' : (a.size : Int) = (n : Int) := by rw [hn]
  have hm' : (p.size : Int) = (m : Int) := by rw [hm]
  by_cases h : m ≤ n
  · have c1 : (m : Int) ≤ (n : Int) := by omega
    have c2 : decide ((m : Int) ≤ (n : Int)) = true := by simpa using h
    have HP : Hid (pre a p = ((a.extract 0 m).toList == p.toList)) := hideIt (by rw [pre, hm, hn]; simp [h])
    obtain ⟨x, hx⟩ : ∃ x, ((a.extract 0 m).toList == p.toList) = x := ⟨_, rfl⟩
    rw [hx] at HP
    have b0 : (0 : Int) ≤ (m : Int) := by omega
    cases x
    all_goals
      go_enter Tryz.func125, Tryz.ntmps125
      go_wp2
      go_ret
      exact ⟨by rw [HP.out]; try rfl, rfl⟩
  · have c1 : ¬ (m : Int) ≤ (n : Int) := by omega
    have c2 : decide ((m : Int) ≤ (n : Int)) = false := by simp; omega
    have HP : Hid (pre a p = false) := hideIt (by rw [pre, hm, hn]; simp [h])
    go_enter Tryz.func125, Tryz.ntmps125
    go_wp2
    go_ret
    exact ⟨by rw [HP.out]; try rfl, rfl⟩
theorem slcut_any (a p : ByteArray) (w : World) :
    Calls Tryz.prog 117 #[.string a, .string p] w fun e w' => e = .returned (.tuple #[.string (if pre a p = true then a.extract p.size a.size else a), .bool (pre a p)]) ∧ w' = w := by
  have H := hideIt (fun w => slpre_any a p w)
  obtain ⟨n, hn⟩ : ∃ n, a.size = n := ⟨_, rfl⟩
  obtain ⟨m, hm⟩ : ∃ m, p.size = m := ⟨_, rfl⟩
  have hn' : (a.size : Int) = (n : Int) := by rw [hn]
  have hm' : (p.size : Int) = (m : Int) := by rw [hm]
  have hle : pre a p = true → m ≤ n := by intro h; rw [pre, hn, hm] at h; simp at h; exact h.1
  rw [hm, hn]
  obtain ⟨x, hx⟩ : ∃ x, pre a p = x := ⟨_, rfl⟩
  rw [hx] at H hle ⊢
  clear hx
  cases x
  · clear hle
    go_enter Tryz.func117, Tryz.ntmps117
    go_wp2_with (first | (go_at_call 125; refine (H.out _).mono ?_; rintro e wx ⟨rfl, hwx⟩; obtain rfl := hwx.symm))
    go_ret2
    exact ⟨rfl, rfl⟩
  · have hl := hle rfl
    clear hle
    have b0 : (0 : Int) ≤ (m : Int) := by omega
    have b1 : (m : Int) ≤ (n : Int) := by omega
    go_enter Tryz.func117, Tryz.ntmps117
    go_wp2_with (first | (go_at_call 125; refine (H.out _).mono ?_; rintro e wx ⟨rfl, hwx⟩; obtain rfl := hwx.symm))
    go_ret2
    exact ⟨rfl, rfl⟩
theorem cutPrefix_any (a p : ByteArray) (w : World) :
    Calls Tryz.prog 106 #[.string a, .string p] w fun e w' => e = .returned (.tuple #[.string (if pre a p = true then a.extract p.size a.size else a), .bool (pre a p)]) ∧ w' = w := by
  have H := hideIt (fun w => slcut_any a p w)
  obtain ⟨o, ho⟩ : ∃ o, (if pre a p = true then a.extract p.size a.size else a) = o := ⟨_, rfl⟩
  rw [ho] at H ⊢
  obtain ⟨x, hx⟩ : ∃ x, pre a p = x := ⟨_, rfl⟩
  rw [hx] at H ⊢
  clear ho hx
  go_enter Tryz.func106, Tryz.ntmps106
  go_wp2_with (first | (go_at_call 117; refine (H.out _).mono ?_; rintro e wx ⟨rfl, hwx⟩; obtain rfl := hwx.symm))
  go_ret2
  exact ⟨rfl, rfl⟩
set_option maxHeartbeats 800000 in
theorem ofRefs_any (x : Nat) (w : World) : Calls Tryz.prog 107 #[.int .i32 (x : Int)] w fun e w' => e = .returned (.bool (refI (x : Int))) ∧ w' = w := by
  rcases cmp_cases (x : Int) with H | H | H | H | H | H | H
  all_goals (have HB := hideIt (refI_of H); obtain ⟨q1, q2, q3, q4, q5, q6⟩ := H)
  all_goals go_enter Tryz.func107, Tryz.ntmps107
  all_goals go_wp2
  all_goals go_ret
  all_goals exact ⟨by rw [HB.out]; rfl, rfl⟩
/-- What may stand behind a ref's folder. -/
def okRef (o : ByteArray) : Bool := !(o.data.toList == []) && (!decide (64 < o.data.toList.length) && o.data.toList.all (fun c => refI (c.toNat : Int)))
theorem decodeN_big (n b0 b1 b2 b3 : Nat) (h : 128 ≤ b0) : 128 ≤ (Lib.decodeN n b0 b1 b2 b3).1 := by
  unfold Lib.decodeN
  rw [if_neg (by omega)]
  repeat' split
  all_goals first | (dsimp only; omega) | omega
theorem runes_ref (s : ByteArray) : ∀ (f pos : Nat), s.size ≤ f + pos → (Lb.runesF s f pos).all (fun d => refI (d.1 : Int)) = (s.data.toList.drop pos).all (fun c => refI (c.toNat : Int)) := by
  intro f
  induction f with
  | zero =>
    intro pos h
    rw [List.drop_eq_nil_of_le (by rw [str_len]; omega)]
    rfl
  | succ f ih =>
    intro pos h
    by_cases hp : pos < s.size
    · have hl : pos < s.data.toList.length := by rw [str_len]; exact hp
      rw [Lb.runes_step s f pos hp, List.drop_eq_getElem_cons hl, List.all_cons, List.all_cons]
      have hg : s.data.toList[pos] = s.get! pos := by rw [Lb.get_list, List.getD_eq_getElem?_getD, List.getElem?_eq_getElem hl]; rfl
      rw [hg]
      obtain ⟨c, hc⟩ : ∃ c, s.get! pos = c := ⟨_, rfl⟩
      rw [Lib.decode_at, hc]
      by_cases h128 : c.toNat < 128
      · have hd : ∀ n b1 b2 b3, Lib.decodeN n c.toNat b1 b2 b3 = (c.toNat, 1) := by intro n b1 b2 b3; rw [Lib.decodeN, if_pos h128]
        rw [hd]
        dsimp only
        rw [ih (pos + 1) (by omega)]
      · rw [refI_big _ (decodeN_big _ _ _ _ _ (by omega)), refI_big c.toNat (by omega)]
        simp
    · rw [Lb.runes_end _ _ _ hp, List.drop_eq_nil_of_le (by rw [str_len]; omega)]
      rfl
end Go.Proofs.YtknmmlfdlfioiaaGreatDoor
