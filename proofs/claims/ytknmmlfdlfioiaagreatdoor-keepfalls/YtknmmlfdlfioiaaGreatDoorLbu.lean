/- Which texts may be refs' names, as the document's copy says it, and as the program does, walked. -/
import Derived.Test.YtknmmlfdlfioiaaGreatDoorLby
namespace Go.Proofs.YtknmmlfdlfioiaaGreatDoor
open Go.RowKit
def tagS : ByteArray := ⟨#[116, 97, 103, 115, 47]⟩
def tagB (s : ByteArray) : Bool := pre s tagS && okRef (s.extract 5 s.size)
set_option maxHeartbeats 400000 in
theorem ref_any (s : ByteArray) (w : World) : Calls Tryz.prog 61 #[.string s] w fun e w' => e = .returned (.bool (headB s || tagB s)) ∧ Below w.heap.size w w' := by
  have H := hideIt (fun w => standsIn_any s tagS w)
  have e : (pre s tagS && okRef (s.extract tagS.size s.size)) = tagB s := rfl
  rw [e] at H
  clear e
  unfold tagS at H
  have HH := hideIt (fun w => head_any s w)
  generalize headB s = a at *
  generalize tagB s = b at *
  cases a
  · go_enter Tryz.func61, Tryz.ntmps61
    go_wp2_with (first | (go_at_call 60; refine (HH.out _).mono ?_; rintro e w1 ⟨rfl, hb1⟩) | (go_at_call 84; refine (H.out _).mono ?_; rintro e w2 ⟨rfl, hb2⟩))
    go_ret
    exact ⟨rfl, below2 hb1 hb2⟩
  · go_enter Tryz.func61, Tryz.ntmps61
    go_wp2_with (first | (go_at_call 60; refine (HH.out _).mono ?_; rintro e w1 ⟨rfl, hb1⟩) | (go_at_call 84; refine (H.out _).mono ?_; rintro e w2 ⟨rfl, hb2⟩))
    go_ret
    exact ⟨rfl, hb1⟩
theorem okRef_bad (o : ByteArray) (h : o.data.toList.all (fun c => refI (c.toNat : Int)) = false) : okRef o = false := by rw [okRef, h]; simp
theorem okRef_long (o : ByteArray) (h : 64 < o.size) : okRef o = false := by rw [okRef, str_len]; simp [h]
theorem okRef_none (o : ByteArray) (h : o.size = 0) : okRef o = false := by
  have : o.data.toList = [] := List.length_eq_zero_iff.1 (by rw [str_len]; exact h)
  rw [okRef, this]; rfl
theorem okRef_good (o : ByteArray) (h0 : 0 < o.size) (h : ¬ 64 < o.size) (ha : o.data.toList.all (fun c => refI (c.toNat : Int)) = true) : okRef o = true := by
  rw [okRef]
  have hl := str_len o
  generalize o.data.toList = l at *
  cases l with
  | nil => simp at hl; omega
  | cons c t => rw [ha, hl]; simp; omega
theorem take_next (o : ByteArray) (k : Nat) (h : k < o.size) : (o.data.toList.take (k + 1)).all (fun c => refI (c.toNat : Int)) = ((o.data.toList.take k).all (fun c => refI (c.toNat : Int)) && refI ((o[k]).toNat : Int)) := by
  rw [List.take_add_one, at_list o k h, List.all_append]
  simp
theorem all_bad (o : ByteArray) (k : Nat) (h : k < o.size) (hf : refI ((o[k]).toNat : Int) = false) : o.data.toList.all (fun c => refI (c.toNat : Int)) = false := by
  have hl : k < o.data.toList.length := by rw [str_len]; exact h
  rw [List.all_eq_false]
  exact ⟨o[k], by have := at_list o k h; exact List.mem_of_getElem? this, by simp [hf]⟩
def hasH (s : ByteArray) : Bool := decide (6 < s.size) && ((s.extract 0 6).toList == [104, 101, 97, 100, 115, 47])
def hasT (s : ByteArray) : Bool := decide (5 < s.size) && ((s.extract 0 5).toList == [116, 97, 103, 115, 47])
/-- What the document's copy answers. -/
def refK (s : ByteArray) : Int := if hasH s = true then (if okRef (s.extract 6 s.size) = true then 1 else 0) else if hasT s = true then (if okRef (s.extract 5 s.size) = true then 2 else 0) else 0
theorem head_has (s : ByteArray) : headB s = (hasH s && okRef (s.extract 6 s.size)) := by
  unfold headB hasH pre
  have e1 : headS.size = 6 := rfl
  have e2 : headS.toList = [104, 101, 97, 100, 115, 47] := by rw [ByteArray.toList_eq]; rfl
  rw [e1, e2]
  by_cases h : s.size = 6
  · rw [okRef_none (s.extract 6 s.size) (by rw [ByteArray.size_extract]; omega)]; simp
  · have : decide (6 ≤ s.size) = decide (6 < s.size) := by apply decide_eq_decide.2; omega
    rw [this]
theorem tag_has (s : ByteArray) : tagB s = (hasT s && okRef (s.extract 5 s.size)) := by
  unfold tagB hasT pre
  have e1 : tagS.size = 5 := rfl
  have e2 : tagS.toList = [116, 97, 103, 115, 47] := by rw [ByteArray.toList_eq]; rfl
  rw [e1, e2]
  by_cases h : s.size = 5
  · rw [okRef_none (s.extract 5 s.size) (by rw [ByteArray.size_extract]; omega)]; simp
  · have : decide (5 ≤ s.size) = decide (5 < s.size) := by apply decide_eq_decide.2; omega
    rw [this]
theorem not_both (s : ByteArray) (h : hasH s = true) : ((s.extract 0 5).toList == [116, 97, 103, 115, 47]) = false := by
  unfold hasH at h
  simp only [Bool.and_eq_true, decide_eq_true_eq, beq_iff_eq] at h
  obtain ⟨h1, h2⟩ := h
  rw [ByteArray.toList_eq] at h2 ⊢
  have e : (s.extract 0 5).data.toList = ((s.extract 0 6).data.toList).take 5 := by
    rw [ByteArray.data_extract, ByteArray.data_extract]
    simp [List.extract_eq_take_drop, List.take_take]
  rw [e, h2]
  rfl
theorem both_no (s : ByteArray) (h : hasT s = true) : hasH s = false := by
  cases hh : hasH s with
  | false => rfl
  | true =>
    have := not_both s hh
    unfold hasT at h
    rw [this] at h
    simp at h
def IsZero (v : Value) : Prop := v = .int .i64 0
/-- The two answers agree. -/
theorem refK_says (s : ByteArray) : (headB s || tagB s) = decide (0 < refK s) ∧ headB s = (refK s == 1) := by
  rw [head_has, tag_has]
  unfold refK
  cases h1 : hasH s
  · cases h2 : hasT s
    · simp
    · cases okRef (s.extract 5 s.size) <;> simp
  · have h2 : hasT s = false := by
      cases h2 : hasT s with
      | false => rfl
      | true => rw [both_no s h2] at h1; cases h1
    rw [h2]
    cases okRef (s.extract 6 s.size) <;> simp
end Go.Proofs.YtknmmlfdlfioiaaGreatDoor
