/- Which texts may be refs' names, as the document's copy says it, and as the program does, walked. -/
import Derived.Test.YtbpjdphflkncjaaGreatDoorLby
namespace Go.Proofs.YtbpjdphflkncjaaGreatDoor
open Go.RowKit
def tagS : ByteArray := ⟨#[116, 97, 103, 115, 47]⟩
def tagB (s : ByteArray) : Bool := pre s tagS && okRef (s.extract 5 s.size)
set_option maxHeartbeats 400000 in
theorem ref_any (s : ByteArray) (w : World) : Calls Tryz.prog 88 #[.string s] w fun e w' => e = .returned (.bool (headB s || tagB s)) ∧ Below w.heap.size w w' := by
  have H := hideIt (fun w => standsIn_any s tagS w)
  have e : (pre s tagS && okRef (s.extract tagS.size s.size)) = tagB s := rfl
  rw [e] at H
  clear e
  unfold tagS at H
  have HH := hideIt (fun w => head_any s w)
  generalize headB s = a at *
  generalize tagB s = b at *
  cases a
  · go_enter Tryz.func88, Tryz.ntmps88
    go_wp2_with (first | (go_at_call 87; refine (HH.out _).mono ?_; rintro e w1 ⟨rfl, hb1⟩) | (go_at_call 106; refine (H.out _).mono ?_; rintro e w2 ⟨rfl, hb2⟩))
    go_ret
    exact ⟨rfl, below2 hb1 hb2⟩
  · go_enter Tryz.func88, Tryz.ntmps88
    go_wp2_with (first | (go_at_call 87; refine (HH.out _).mono ?_; rintro e w1 ⟨rfl, hb1⟩) | (go_at_call 106; refine (H.out _).mono ?_; rintro e w2 ⟨rfl, hb2⟩))
    go_ret
    exact ⟨rfl, hb1⟩
theorem okRef_bad (o : ByteArray) (h : o.data.toList.all (fun c => refI (c.toNat : Int)) = false) : okRef o = false := by rw [okRef, h]; simp
theorem okRef_long (o : ByteArray) (h : 64 < o.size) : okRef o = false := by rw [okRef, str_len]; simp [h]
theorem okRef_none (o : ByteArray) (h : o.size = 0) : okRef o = false := by
  have : o.data.toList = [] := List.length_eq_zero_iff.1 (by rw [str_len]; exact h)
  rw [okRef, this]; rfl
theorem okRef_good (o : ByteArray) (h0 : 0 < o.size) (h : ¬ 64 < o.size) (ha : o.data.toList.all (fun c => refI (c.toNat : Int)) = true) : okRef o = true := by
  rw [okRef]
  have hl := str_len o
  generalize o.data.toList = l at *
  cases l with
  | nil => simp at hl; omega
  | cons c t => rw [ha, hl]; simp; omega
theorem take_next (o : ByteArray) (k : Nat) (h : k < o.size) : (o.data.toList.take (k + 1)).all (fun c => refI (c.toNat : Int)) = ((o.data.toList.take k).all (fun c => refI (c.toNat : Int)) && refI ((o[k]).toNat : Int)) := by
  rw [List.take_add_one, at_list o k h, List.all_append]
  simp
theorem all_bad (o : ByteArray) (k : Nat) (h : k < o.size) (hf : refI ((o[k]).toNat : Int) = false) : o.data.toList.all (fun c => refI (c.toNat : Int)) = false := by
  have hl : k < o.data.toList.length := by rw [str_len]; exact h
  rw [List.all_eq_false]
  exact ⟨o[k], by have := at_list o k h; exact List.mem_of_getElem? this, by simp [hf]⟩
def hasH (s : ByteArray) : Bool := decide (6 < s.size) && ((s.extract 0 6).toList == [104, 101, 97, 100, 115, 47])
def hasT (s : ByteArray) : Bool := decide (5 < s.size) && ((s.extract 0 5).toList == [116, 97, 103, 115, 47])
/-- What the document's copy answers. -/
def refK (s : ByteArray) : Int := if hasH s = true then (if okRef (s.extract 6 s.size) = true then 1 else 0) else if hasT s = true then (if okRef (s.extract 5 s.size) = true then 2 else 0) else 0
theorem head_has (s : ByteArray) : headB s = (hasH s && okRef (s.extract 6 s.size)) := by
  unfold headB hasH pre
  have e1 : headS.size = 6 := rfl
  have e2 : headS.toList = [104, 101, 97, 100, 115, 47] := by rw [ByteArray.toList_eq]; rfl
  rw [e1, e2]
  by_cases h : s.size = 6
  · rw [okRef_none (s.extract 6 s.size) (by rw [ByteArray.size_extract]; omega)]; simp
  · have : decide (6 ≤ s.size) = decide (6 < s.size) := by apply decide_eq_decide.2; omega
    rw [this]
theorem tag_has (s : ByteArray) : tagB s = (hasT s && okRef (s.extract 5 s.size)) := by
  unfold tagB hasT pre
  have e1 : tagS.size = 5 := rfl
  have e2 : tagS.toList = [116, 97, 103, 115, 47] := by rw [ByteArray.toList_eq]; rfl
  rw [e1, e2]
  by_cases h : s.size = 5
  · rw [okRef_none (s.extract 5 s.size) (by rw [ByteArray.size_extract]; omega)]; simp
  · have : decide (5 ≤ s.size) = decide (5 < s.size) := by apply decide_eq_decide.2; omega
    rw [this]
theorem not_both (s : ByteArray) (h : hasH s = true) : ((s.extract 0 5).toList == [116, 97, 103, 115, 47]) = false := by
  unfold hasH at h
  simp only [Bool.and_eq_true, decide_eq_true_eq, beq_iff_eq] at h
  obtain ⟨h1, h2⟩ := h
  rw [ByteArray.toList_eq] at h2 ⊢
  have e : (s.extract 0 5).data.toList = ((s.extract 0 6).data.toList).take 5 := by
    rw [ByteArray.data_extract, ByteArray.data_extract]
    simp [List.extract_eq_take_drop, List.take_take]
  rw [e, h2]
  rfl
theorem both_no (s : ByteArray) (h : hasT s = true) : hasH s = false := by
  cases hh : hasH s with
  | false => rfl
  | true =>
    have := not_both s hh
    unfold hasT at h
    rw [this] at h
    simp at h
def IsZero (v : Value) : Prop := v = .int .i64 0
/-- The two answers agree. -/
theorem refK_says (s : ByteArray) : (headB s || tagB s) = decide (0 < refK s) ∧ headB s = (refK s == 1) := by
  rw [head_has, tag_has]
  unfold refK
  cases h1 : hasH s
  · cases h2 : hasT s
    · simp
    · cases okRef (s.extract 5 s.size) <;> simp
  · have h2 : hasT s = false := by
      cases h2 : hasT s with
      | false => rfl
      | true => rw [both_no s h2] at h1; cases h1
    rw [h2]
    cases okRef (s.extract 6 s.size) <;> simp
set_option maxHeartbeats 3200000 in
set_option maxRecDepth 100000 in
theorem refref_any (s : ByteArray) (w : World) (hs : s.size ≤ 1000000) :
    Calls Tryz.prog 31 #[.string s] w fun e w' => e = .returned (.int .i64 (refK s)) ∧ Below w.heap.size w w' := by
  obtain ⟨n, hn⟩ : ∃ n, s.size = n := ⟨_, rfl⟩
  have hni : (s.size : Int) = (n : Int) := by rw [hn]
  have hH : hasH s = (decide (6 < s.size) && ((s.extract 0 6).toList == [104, 101, 97, 100, 115, 47])) := rfl
  have hT : hasT s = (decide (5 < s.size) && ((s.extract 0 5).toList == [116, 97, 103, 115, 47])) := rfl
  have hNB := not_both s
  have hBN := both_no s
  have HR : Hid (refK s = (if hasH s = true then (if okRef (s.extract 6 s.size) = true then 1 else 0) else if hasT s = true then (if okRef (s.extract 5 s.size) = true then 2 else 0) else 0)) := rfl
  rw [hn] at hH hT
  generalize hasH s = A at *
  generalize hasT s = B at *
  cases A
  · cases B
    · have HR' : Hid (refK s = 0) := hideIt (by rw [HR.out]; simp)
      clear HR hNB hBN
      obtain ⟨x, hx⟩ : ∃ x, ((s.extract 0 6).toList == [104, 101, 97, 100, 115, 47]) = x := ⟨_, rfl⟩
      obtain ⟨y, hy⟩ : ∃ y, ((s.extract 0 5).toList == [116, 97, 103, 115, 47]) = y := ⟨_, rfl⟩
      rw [hx] at hH
      rw [hy] at hT
      by_cases h6 : 6 < n
      · have d6 : decide ((6 : Int) < (n : Int)) = true := by simp; omega
        have d5 : decide ((5 : Int) < (n : Int)) = true := by simp; omega
        have i6 : (6 : Int) ≤ (n : Int) := by omega
        have i5 : (5 : Int) ≤ (n : Int) := by omega
        rw [decide_eq_true h6, Bool.true_and] at hH
        rw [decide_eq_true (show 5 < n by omega), Bool.true_and] at hT
        subst hH hT
        go_enter Tryz.func31, Tryz.ntmps31
        go_wp2
        go_loop [5, 6] (fun i _ => IsZero i) (fun i _ => (intOf i).toNat)
        case atStart => exact rfl
        case round =>
          have hrel' : _ = Value.int .i64 0 := hrel
          clear hrel
          subst hrel'
          go_wp2
          go_ret
          exact ⟨by rw [HR'.out]; rfl, Below.refl _ _⟩
      · have d6 : decide ((6 : Int) < (n : Int)) = false := by simp; omega
        clear hH
        by_cases h5 : 5 < n
        · have d5 : decide ((5 : Int) < (n : Int)) = true := by simp; omega
          have i5 : (5 : Int) ≤ (n : Int) := by omega
          rw [decide_eq_true h5, Bool.true_and] at hT
          subst hT
          go_enter Tryz.func31, Tryz.ntmps31
          go_wp2
          go_loop [5, 6] (fun i _ => IsZero i) (fun i _ => (intOf i).toNat)
          case atStart => exact rfl
          case round =>
            have hrel' : _ = Value.int .i64 0 := hrel
            clear hrel
            subst hrel'
            go_wp2
            go_ret
            exact ⟨by rw [HR'.out]; rfl, Below.refl _ _⟩
        · have d5 : decide ((5 : Int) < (n : Int)) = false := by simp; omega
          clear hT
          go_enter Tryz.func31, Tryz.ntmps31
          go_wp2
          go_loop [5, 6] (fun i _ => IsZero i) (fun i _ => (intOf i).toNat)
          case atStart => exact rfl
          case round =>
            have hrel' : _ = Value.int .i64 0 := hrel
            clear hrel
            subst hrel'
            go_wp2
            go_ret
            exact ⟨by rw [HR'.out]; rfl, Below.refl _ _⟩
    · have hlt : 5 < n := by simp at hT; omega
      have e5 : ((s.extract 0 5).toList == [116, 97, 103, 115, 47]) = true := by rw [decide_eq_true hlt, Bool.true_and] at hT; exact hT.symm
      obtain ⟨x, hx⟩ : ∃ x, ((s.extract 0 6).toList == [104, 101, 97, 100, 115, 47]) = x := ⟨_, rfl⟩
      obtain ⟨u, hu⟩ : ∃ u, decide ((6 : Int) < (n : Int)) = u := ⟨_, rfl⟩
      have hux : u = false ∨ x = false := by
        have eu : decide (6 < n) = u := by rw [← hu]; apply decide_eq_decide.2; omega
        rw [hx, eu] at hH
        cases u
        · exact .inl rfl
        · cases x
          · exact .inr rfl
          · exact absurd hH (by decide)
      have HK : Hid (refK s = if okRef (s.extract 5 s.size) = true then 2 else 0) := hideIt (by rw [HR.out]; simp)
      clear HR hNB hBN hH hT
      have d5 : decide ((5 : Int) < (n : Int)) = true := by simp; omega
      have i6 : (5 : Int) ≤ (n : Int) := by omega
      obtain ⟨o, ho⟩ : ∃ o, s.extract 5 s.size = o := ⟨_, rfl⟩
      have hoz : o.size = n - 5 := by rw [← ho, ByteArray.size_extract]; omega
      rw [ho] at HK
      rw [hn] at ho
      obtain ⟨z, hz⟩ : ∃ z, o.size = z := ⟨_, rfl⟩
      have hzi : (o.size : Int) = (z : Int) := by rw [hz]
      have hz0 : 0 < z := by omega
      have hz1 : z ≤ 1000000 := by omega
      clear hoz
      cases u <;> cases x
      case true.true => rcases hux with h | h <;> cases h
      all_goals clear hux
      all_goals
        go_enter Tryz.func31, Tryz.ntmps31
        go_wp2
        go_quiet (fail)
        go_wp2
        go_loop [5, 6] (fun i _ => ∃ k : Nat, k ≤ z ∧ i = .int .i64 k ∧ (o.data.toList.take k).all (fun c => refI (c.toNat : Int)) = true) (fun i _ => z - (intOf i).toNat)
        case atStart => exact ⟨0, by omega, rfl, by simp⟩
        case round =>
          obtain ⟨k, hk, rfl, hall⟩ := hrel
          have HL := hideIt hall
          clear hall
          by_cases hlt : k < z
          · have d1 : decide ((k : Int) < (z : Int)) = true := by simp; omega
            have hks : k < o.size := by omega
            have i0 : (0 : Int) ≤ (k : Int) := by omega
            have i1 : (k : Int) < (z : Int) := by omega
            have i2 : (k : Int) ≤ 1000000 := by omega
            have HT := hideIt (take_next o k hks)
            have HX := hideIt (all_bad o k hks)
            obtain ⟨y, hy⟩ : ∃ y, (o[k]).toNat = y := ⟨_, rfl⟩
            rw [hy] at HT HX
            rcases cmp_cases (y : Int) with H | H | H | H | H | H | H
            all_goals (have HB := hideIt (refI_of H); obtain ⟨q1, q2, q3, q4, q5, q6⟩ := H)
            all_goals go_wp2
            all_goals first
              | (go_ret; exact ⟨by rw [HK.out, okRef_bad o (HX.out (by rw [HB.out]; rfl))]; rfl, ⟨rfl, rfl, rfl, Nat.le_refl _, fun _ _ => rfl⟩⟩)
              | (go_round
                 case rel => exact ⟨k + 1, by omega, by go_num, by rw [HT.out, HL.out, HB.out]; rfl⟩
                 case measure => simp [intOf]; omega)
          · have d1 : decide ((k : Int) < (z : Int)) = false := by simp; omega
            have HA : Hid (o.data.toList.all (fun c => refI (c.toNat : Int)) = true) := hideIt (by have := HL.out; rwa [List.take_of_length_le (by rw [str_len]; omega)] at this)
            by_cases h64 : 64 < z
            · have d2 : decide ((64 : Int) < (z : Int)) = true := by simp; omega
              go_wp2
              go_ret
              exact ⟨by rw [HK.out, okRef_long o (by omega)]; rfl, ⟨rfl, rfl, rfl, Nat.le_refl _, fun _ _ => rfl⟩⟩
            · have d2 : decide ((64 : Int) < (z : Int)) = false := by simp; omega
              go_wp2
              go_ret
              exact ⟨by rw [HK.out, okRef_good o (by omega) (by omega) HA.out]; rfl, ⟨rfl, rfl, rfl, Nat.le_refl _, fun _ _ => rfl⟩⟩
  · have hlt : 6 < n := by simp at hH; omega
    have hNB' := hNB rfl
    have e6 : ((s.extract 0 6).toList == [104, 101, 97, 100, 115, 47]) = true := by rw [decide_eq_true hlt, Bool.true_and] at hH; exact hH.symm
    have d6 : decide ((6 : Int) < (n : Int)) = true := by simp; omega
    have HK : Hid (refK s = if okRef (s.extract 6 s.size) = true then 1 else 0) := hideIt (by rw [HR.out]; simp)
    clear HR hNB hBN hH hT
    have d5 : decide ((5 : Int) < (n : Int)) = true := by simp; omega
    have i6 : (6 : Int) ≤ (n : Int) := by omega
    obtain ⟨o, ho⟩ : ∃ o, s.extract 6 s.size = o := ⟨_, rfl⟩
    have hoz : o.size = n - 6 := by rw [← ho, ByteArray.size_extract]; omega
    rw [ho] at HK
    rw [hn] at ho
    obtain ⟨z, hz⟩ : ∃ z, o.size = z := ⟨_, rfl⟩
    have hzi : (o.size : Int) = (z : Int) := by rw [hz]
    have hz0 : 0 < z := by omega
    have hz1 : z ≤ 1000000 := by omega
    clear hoz
    go_enter Tryz.func31, Tryz.ntmps31
    go_wp2
    go_quiet (fail)
    go_wp2
    go_loop [5, 6] (fun i _ => ∃ k : Nat, k ≤ z ∧ i = .int .i64 k ∧ (o.data.toList.take k).all (fun c => refI (c.toNat : Int)) = true) (fun i _ => z - (intOf i).toNat)
    case atStart => exact ⟨0, by omega, rfl, by simp⟩
    case round =>
      obtain ⟨k, hk, rfl, hall⟩ := hrel
      have HL := hideIt hall
      clear hall
      by_cases hlt : k < z
      · have d1 : decide ((k : Int) < (z : Int)) = true := by simp; omega
        have hks : k < o.size := by omega
        have i0 : (0 : Int) ≤ (k : Int) := by omega
        have i1 : (k : Int) < (z : Int) := by omega
        have i2 : (k : Int) ≤ 1000000 := by omega
        have HT := hideIt (take_next o k hks)
        have HX := hideIt (all_bad o k hks)
        obtain ⟨y, hy⟩ : ∃ y, (o[k]).toNat = y := ⟨_, rfl⟩
        rw [hy] at HT HX
        rcases cmp_cases (y : Int) with H | H | H | H | H | H | H
        all_goals (have HB := hideIt (refI_of H); obtain ⟨q1, q2, q3, q4, q5, q6⟩ := H)
        all_goals go_wp2
        all_goals first
          | (go_ret; exact ⟨by rw [HK.out, okRef_bad o (HX.out (by rw [HB.out]; rfl))]; rfl, ⟨rfl, rfl, rfl, Nat.le_refl _, fun _ _ => rfl⟩⟩)
          | (go_round
             case rel => exact ⟨k + 1, by omega, by go_num, by rw [HT.out, HL.out, HB.out]; rfl⟩
             case measure => simp [intOf]; omega)
      · have d1 : decide ((k : Int) < (z : Int)) = false := by simp; omega
        have HA : Hid (o.data.toList.all (fun c => refI (c.toNat : Int)) = true) := hideIt (by have := HL.out; rwa [List.take_of_length_le (by rw [str_len]; omega)] at this)
        by_cases h64 : 64 < z
        · have d2 : decide ((64 : Int) < (z : Int)) = true := by simp; omega
          go_wp2
          go_ret
          exact ⟨by rw [HK.out, okRef_long o (by omega)]; rfl, ⟨rfl, rfl, rfl, Nat.le_refl _, fun _ _ => rfl⟩⟩
        · have d2 : decide ((64 : Int) < (z : Int)) = false := by simp; omega
          go_wp2
          go_ret
          exact ⟨by rw [HK.out, okRef_good o (by omega) (by omega) HA.out]; rfl, ⟨rfl, rfl, rfl, Nat.le_refl _, fun _ _ => rfl⟩⟩
end Go.Proofs.YtbpjdphflkncjaaGreatDoor
