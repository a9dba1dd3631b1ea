/- Labels: the document's test of a ref's name, at any length. -/
import Derived.Test.YtbpjdphflkncjaaGreatDoorRfRe
namespace Go.Proofs.YtbpjdphflkncjaaGreatDoor.Rf
open Go.RowKit
set_option maxHeartbeats 3200000 in
set_option maxRecDepth 100000 in
theorem refrefX_any (s : ByteArray) (w : World) (hs : s.size ≤ 9223372036854775807) :
    Calls Tryz.prog 31 #[.string s] w fun e w' => e = .returned (.int .i64 (refK s)) ∧ Below w.heap.size w w' := by
  obtain ⟨n, hn⟩ : ∃ n, s.size = n := ⟨_, rfl⟩
  have hni : (s.size : Int) = (n : Int) := by rw [hn]
  have hH : hasH s = (decide (6 < s.size) && ((s.extract 0 6).toList == [104, 101, 97, 100, 115, 47])) := rfl
  have hT : hasT s = (decide (5 < s.size) && ((s.extract 0 5).toList == [116, 97, 103, 115, 47])) := rfl
  have hNB := not_both s
  have hBN := both_no s
  have HR : Hid (refK s = (if hasH s = true then (if okRef (s.extract 6 s.size) = true then 1 else 0) else if hasT s = true then (if okRef (s.extract 5 s.size) = true then 2 else 0) else 0)) := rfl
  rw [hn] at hH hT
  generalize hasH s = A at *
  generalize hasT s = B at *
  cases A
  · cases B
    · have HR' : Hid (refK s = 0) := hideIt (by rw [HR.out]; simp)
      clear HR hNB hBN
      obtain ⟨x, hx⟩ : ∃ x, ((s.extract 0 6).toList == [104, 101, 97, 100, 115, 47]) = x := ⟨_, rfl⟩
      obtain ⟨y, hy⟩ : ∃ y, ((s.extract 0 5).toList == [116, 97, 103, 115, 47]) = y := ⟨_, rfl⟩
      rw [hx] at hH
      rw [hy] at hT
      by_cases h6 : 6 < n
      · have d6 : decide ((6 : Int) < (n : Int)) = true := by simp; omega
        have d5 : decide ((5 : Int) < (n : Int)) = true := by simp; omega
        have i6 : (6 : Int) ≤ (n : Int) := by omega
        have i5 : (5 : Int) ≤ (n : Int) := by omega
        rw [decide_eq_true h6, Bool.true_and] at hH
        rw [decide_eq_true (show 5 < n by omega), Bool.true_and] at hT
        subst hH hT
        go_enter Tryz.func31, Tryz.ntmps31
        go_wp2
        go_loop [5, 6] (fun i _ => IsZero i) (fun i _ => (intOf i).toNat)
        case atStart => exact rfl
        case round =>
          have hrel' : _ = Value.int .i64 0 := hrel
          clear hrel
          subst hrel'
          go_wp2
          go_ret
          exact ⟨by rw [HR'.out]; rfl, Below.refl _ _⟩
      · have d6 : decide ((6 : Int) < (n : Int)) = false := by simp; omega
        clear hH
        by_cases h5 : 5 < n
        · have d5 : decide ((5 : Int) < (n : Int)) = true := by simp; omega
          have i5 : (5 : Int) ≤ (n : Int) := by omega
          rw [decide_eq_true h5, Bool.true_and] at hT
          subst hT
          go_enter Tryz.func31, Tryz.ntmps31
          go_wp2
          go_loop [5, 6] (fun i _ => IsZero i) (fun i _ => (intOf i).toNat)
          case atStart => exact rfl
          case round =>
            have hrel' : _ = Value.int .i64 0 := hrel
            clear hrel
            subst hrel'
            go_wp2
            go_ret
            exact ⟨by rw [HR'.out]; rfl, Below.refl _ _⟩
        · have d5 : decide ((5 : Int) < (n : Int)) = false := by simp; omega
          clear hT
          go_enter Tryz.func31, Tryz.ntmps31
          go_wp2
          go_loop [5, 6] (fun i _ => IsZero i) (fun i _ => (intOf i).toNat)
          case atStart => exact rfl
          case round =>
            have hrel' : _ = Value.int .i64 0 := hrel
            clear hrel
            subst hrel'
            go_wp2
            go_ret
            exact ⟨by rw [HR'.out]; rfl, Below.refl _ _⟩
    · have hlt : 5 < n := by simp at hT; omega
      have e5 : ((s.extract 0 5).toList == [116, 97, 103, 115, 47]) = true := by rw [decide_eq_true hlt, Bool.true_and] at hT; exact hT.symm
      obtain ⟨x, hx⟩ : ∃ x, ((s.extract 0 6).toList == [104, 101, 97, 100, 115, 47]) = x := ⟨_, rfl⟩
      obtain ⟨u, hu⟩ : ∃ u, decide ((6 : Int) < (n : Int)) = u := ⟨_, rfl⟩
      have hux : u = false ∨ x = false := by
        have eu : decide (6 < n) = u := by rw [← hu]; apply decide_eq_decide.2; omega
        rw [hx, eu] at hH
        cases u
        · exact .inl rfl
        · cases x
          · exact .inr rfl
          · exact absurd hH (by decide)
      have HK : Hid (refK s = if okRef (s.extract 5 s.size) = true then 2 else 0) := hideIt (by rw [HR.out]; simp)
      clear HR hNB hBN hH hT
      have d5 : decide ((5 : Int) < (n : Int)) = true := by simp; omega
      have i6 : (5 : Int) ≤ (n : Int) := by omega
      obtain ⟨o, ho⟩ : ∃ o, s.extract 5 s.size = o := ⟨_, rfl⟩
      have hoz : o.size = n - 5 := by rw [← ho, ByteArray.size_extract]; omega
      rw [ho] at HK
      rw [hn] at ho
      obtain ⟨z, hz⟩ : ∃ z, o.size = z := ⟨_, rfl⟩
      have hzi : (o.size : Int) = (z : Int) := by rw [hz]
      have hz0 : 0 < z := by omega
      have hz1 : z ≤ 9223372036854775807 := by omega
      clear hoz
      cases u <;> cases x
      case true.true => rcases hux with h | h <;> cases h
      all_goals clear hux
      all_goals
        go_enter Tryz.func31, Tryz.ntmps31
        go_wp2
        go_quiet (fail)
        go_wp2
        go_loop [5, 6] (fun i _ => ∃ k : Nat, k ≤ z ∧ i = .int .i64 k ∧ (o.data.toList.take k).all (fun c => refI (c.toNat : Int)) = true) (fun i _ => z - (intOf i).toNat)
        case atStart => exact ⟨0, by omega, rfl, by simp⟩
        case round =>
          obtain ⟨k, hk, rfl, hall⟩ := hrel
          have HL := hideIt hall
          clear hall
          by_cases hlt : k < z
          · have d1 : decide ((k : Int) < (z : Int)) = true := by simp; omega
            have hks : k < o.size := by omega
            have i0 : (0 : Int) ≤ (k : Int) := by omega
            have i1 : (k : Int) < (z : Int) := by omega
            have i2 : (k : Int) ≤ 9223372036854775807 := by omega
            have HT := hideIt (take_next o k hks)
            have HX := hideIt (all_bad o k hks)
            obtain ⟨y, hy⟩ : ∃ y, (o[k]).toNat = y := ⟨_, rfl⟩
            rw [hy] at HT HX
            rcases cmp_cases (y : Int) with H | H | H | H | H | H | H
            all_goals (have HB := hideIt (refI_of H); obtain ⟨q1, q2, q3, q4, q5, q6⟩ := H)
            all_goals go_wp2
            all_goals first
              | (go_ret; exact ⟨by rw [HK.out, okRef_bad o (HX.out (by rw [HB.out]; rfl))]; rfl, ⟨rfl, rfl, rfl, Nat.le_refl _, fun _ _ => rfl⟩⟩)
              | (go_round
                 case rel => exact ⟨k + 1, by omega, by go_num, by rw [HT.out, HL.out, HB.out]; rfl⟩
                 case measure => simp [intOf]; omega)
          · have d1 : decide ((k : Int) < (z : Int)) = false := by simp; omega
            have HA : Hid (o.data.toList.all (fun c => refI (c.toNat : Int)) = true) := hideIt (by have := HL.out; rwa [List.take_of_length_le (by rw [str_len]; omega)] at this)
            by_cases h64 : 64 < z
            · have d2 : decide ((64 : Int) < (z : Int)) = true := by simp; omega
              go_wp2
              go_ret
              exact ⟨by rw [HK.out, okRef_long o (by omega)]; rfl, ⟨rfl, rfl, rfl, Nat.le_refl _, fun _ _ => rfl⟩⟩
            · have d2 : decide ((64 : Int) < (z : Int)) = false := by simp; omega
              go_wp2
              go_ret
              exact ⟨by rw [HK.out, okRef_good o (by omega) (by omega) HA.out]; rfl, ⟨rfl, rfl, rfl, Nat.le_refl _, fun _ _ => rfl⟩⟩
  · have hlt : 6 < n := by simp at hH; omega
    have hNB' := hNB rfl
    have e6 : ((s.extract 0 6).toList == [104, 101, 97, 100, 115, 47]) = true := by rw [decide_eq_true hlt, Bool.true_and] at hH; exact hH.symm
    have d6 : decide ((6 : Int) < (n : Int)) = true := by simp; omega
    have HK : Hid (refK s = if okRef (s.extract 6 s.size) = true then 1 else 0) := hideIt (by rw [HR.out]; simp)
    clear HR hNB hBN hH hT
    have d5 : decide ((5 : Int) < (n : Int)) = true := by simp; omega
    have i6 : (6 : Int) ≤ (n : Int) := by omega
    obtain ⟨o, ho⟩ : ∃ o, s.extract 6 s.size = o := ⟨_, rfl⟩
    have hoz : o.size = n - 6 := by rw [← ho, ByteArray.size_extract]; omega
    rw [ho] at HK
    rw [hn] at ho
    obtain ⟨z, hz⟩ : ∃ z, o.size = z := ⟨_, rfl⟩
    have hzi : (o.size : Int) = (z : Int) := by rw [hz]
    have hz0 : 0 < z := by omega
    have hz1 : z ≤ 9223372036854775807 := by omega
    clear hoz
    go_enter Tryz.func31, Tryz.ntmps31
    go_wp2
    go_quiet (fail)
    go_wp2
    go_loop [5, 6] (fun i _ => ∃ k : Nat, k ≤ z ∧ i = .int .i64 k ∧ (o.data.toList.take k).all (fun c => refI (c.toNat : Int)) = true) (fun i _ => z - (intOf i).toNat)
    case atStart => exact ⟨0, by omega, rfl, by simp⟩
    case round =>
      obtain ⟨k, hk, rfl, hall⟩ := hrel
      have HL := hideIt hall
      clear hall
      by_cases hlt : k < z
      · have d1 : decide ((k : Int) < (z : Int)) = true := by simp; omega
        have hks : k < o.size := by omega
        have i0 : (0 : Int) ≤ (k : Int) := by omega
        have i1 : (k : Int) < (z : Int) := by omega
        have i2 : (k : Int) ≤ 9223372036854775807 := by omega
        have HT := hideIt (take_next o k hks)
        have HX := hideIt (all_bad o k hks)
        obtain ⟨y, hy⟩ : ∃ y, (o[k]).toNat = y := ⟨_, rfl⟩
        rw [hy] at HT HX
        rcases cmp_cases (y : Int) with H | H | H | H | H | H | H
        all_goals (have HB := hideIt (refI_of H); obtain ⟨q1, q2, q3, q4, q5, q6⟩ := H)
        all_goals go_wp2
        all_goals first
          | (go_ret; exact ⟨by rw [HK.out, okRef_bad o (HX.out (by rw [HB.out]; rfl))]; rfl, ⟨rfl, rfl, rfl, Nat.le_refl _, fun _ _ => rfl⟩⟩)
          | (go_round
             case rel => exact ⟨k + 1, by omega, by go_num, by rw [HT.out, HL.out, HB.out]; rfl⟩
             case measure => simp [intOf]; omega)
      · have d1 : decide ((k : Int) < (z : Int)) = false := by simp; omega
        have HA : Hid (o.data.toList.all (fun c => refI (c.toNat : Int)) = true) := hideIt (by have := HL.out; rwa [List.take_of_length_le (by rw [str_len]; omega)] at this)
        by_cases h64 : 64 < z
        · have d2 : decide ((64 : Int) < (z : Int)) = true := by simp; omega
          go_wp2
          go_ret
          exact ⟨by rw [HK.out, okRef_long o (by omega)]; rfl, ⟨rfl, rfl, rfl, Nat.le_refl _, fun _ _ => rfl⟩⟩
        · have d2 : decide ((64 : Int) < (z : Int)) = false := by simp; omega
          go_wp2
          go_ret
          exact ⟨by rw [HK.out, okRef_good o (by omega) (by omega) HA.out]; rfl, ⟨rfl, rfl, rfl, Nat.le_refl _, fun _ _ => rfl⟩⟩
end Go.Proofs.YtbpjdphflkncjaaGreatDoor.Rf
