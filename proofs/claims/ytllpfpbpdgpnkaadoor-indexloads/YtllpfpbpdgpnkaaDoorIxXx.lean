/- Indexes: the spots whose ids begin with one byte; which spot has an id. -/
import Derived.Test.YtllpfpbpdgpnkaaDoorIxXw
namespace Go.Proofs.YtllpfpbpdgpnkaaDoor.Ix
open Cb Go.RowKit Go.Shelf
/-- The spot of an id. -/
def look (m : List Sp) (t : ByteArray) : Option Sp := m.find? (fun x => decide (x.d = t))
theorem look_some {m : List Sp} (hu : Up m) {x : Sp} (hx : x ∈ m) : look m x.d = some x := by
  unfold look
  cases h : m.find? (fun y => decide (y.d = x.d)) with
  | none =>
    have := List.find?_eq_none.1 h x hx
    simp at this
  | some y =>
    have h1 := List.find?_some h
    have h2 := List.mem_of_find?_eq_some h
    have e1 := (found_of hu h2 (by simpa using h1)).2
    have e2 := (found_of hu hx rfl).2
    rw [e1] at e2
    exact e2
theorem look_none {m : List Sp} {t : ByteArray} (h : ∀ x ∈ m, ¬ x.d = t) : look m t = none := by
  unfold look
  rw [List.find?_eq_none]
  intro x hx
  simpa using h x hx
theorem look_mem {m : List Sp} {t : ByteArray} {x : Sp} (h : look m t = some x) : x ∈ m ∧ x.d = t := by
  unfold look at h
  exact ⟨List.mem_of_find?_eq_some h, by simpa using List.find?_some h⟩
theorem less_hd {x y : Sp} (h : less x.d y.d = true) : hd x ≤ hd y := by
  unfold less at h
  unfold hd
  rw [ByteArray.toList_eq, ByteArray.toList_eq] at h
  generalize x.d.data.toList = a at h
  generalize y.d.data.toList = b at h
  cases a with
  | nil => simp
  | cons p a =>
    cases b with
    | nil => simp [Op.bytesLess] at h
    | cons q b =>
      simp only [Op.bytesLess, Bool.or_eq_true, decide_eq_true_eq, Bool.and_eq_true, beq_iff_eq] at h
      simp only [List.headD_cons]
      rcases h with h | ⟨rfl, _⟩
      · rw [UInt8.lt_iff_toNat_lt] at h; omega
      · exact Nat.le_refl _
/-- Ids that begin with this byte or a lesser one stand ahead of all others. -/
theorem hd_parts : ∀ {m : List Sp}, Up m → ∀ (b : Nat), (∀ x ∈ m.take (cnt m b), hd x ≤ b) ∧ (∀ x ∈ m.drop (cnt m b), b < hd x)
  | [], _, b => ⟨fun x hx => by simp at hx, fun x hx => by simp at hx⟩
  | a :: r, h, b => by
    have hr : Up r := (List.pairwise_cons.1 h).2
    have ha := (List.pairwise_cons.1 h).1
    obtain ⟨i1, i2⟩ := hd_parts hr b
    by_cases hl : hd a ≤ b
    · have e : cnt (a :: r) b = cnt r b + 1 := List.countP_cons_of_pos (p := fun x : Sp => decide (hd x ≤ b)) (by simpa using hl)
      rw [e, List.take_succ_cons, List.drop_succ_cons]
      exact ⟨fun x hx => by rcases List.mem_cons.1 hx with rfl | hx; exact hl; exact i1 x hx, i2⟩
    · have hz : ∀ x ∈ a :: r, b < hd x := fun x hx => by
        rcases List.mem_cons.1 hx with rfl | hx
        · omega
        · have := less_hd (ha x hx); omega
      have e : cnt (a :: r) b = 0 := by
        rw [cnt, List.countP_eq_zero]
        intro x hx
        have := hz x hx
        simp; omega
      rw [e]
      exact ⟨fun x hx => by simp at hx, fun x hx => hz x (by simpa using hx)⟩
/-- How many ids begin with a lesser byte. -/
def ahead (m : List Sp) (b : Nat) : Nat := if b = 0 then 0 else cnt m (b - 1)
def near (m : List Sp) (b : Nat) : List Sp := (m.drop (ahead m b)).take (cnt m b - ahead m b)
theorem ahead_le (m : List Sp) (b : Nat) : ahead m b ≤ cnt m b := by
  unfold ahead
  split
  · exact Nat.zero_le _
  · rename_i h
    have := cnt_next m (b - 1)
    rw [show b - 1 + 1 = b by omega] at this
    omega
theorem near_mem {m : List Sp} {b : Nat} {x : Sp} (h : x ∈ near m b) : x ∈ m := List.mem_of_mem_drop (List.mem_of_mem_take h)
theorem near_has {m : List Sp} (hu : Up m) {x : Sp} (hx : x ∈ m) : x ∈ near m (hd x) := by
  have e : m.take (ahead m (hd x)) ++ (near m (hd x) ++ m.drop (cnt m (hd x))) = m := by
    have h1 : (m.drop (ahead m (hd x))).drop (cnt m (hd x) - ahead m (hd x)) = m.drop (cnt m (hd x)) := by
      rw [List.drop_drop, show ahead m (hd x) + (cnt m (hd x) - ahead m (hd x)) = cnt m (hd x) by have := ahead_le m (hd x); omega]
    rw [near, ← h1, List.take_append_drop, List.take_append_drop]
  rw [← e] at hx
  rcases List.mem_append.1 hx with h | h
  · unfold ahead at h
    split at h
    · simp at h
    · have := (hd_parts hu (hd x - 1)).1 x h; omega
  · rcases List.mem_append.1 h with h | h
    · exact h
    · have := (hd_parts hu (hd x)).2 x h; omega
theorem near_up {m : List Sp} (hu : Up m) (b : Nat) : Up (near m b) := (hu.sublist (List.drop_sublist _ _)).sublist (List.take_sublist _ _)
theorem near_len (m : List Sp) (b : Nat) : (near m b).length = cnt m b - ahead m b := by
  have := cnt_le m b
  simp [near]
  omega
/-- What the look among them finds is what the look among all finds. -/
theorem near_found {m : List Sp} (hu : Up m) {t : ByteArray} {b : Nat} (hb : hd ⟨t, 0⟩ = b) : (found (near m b) t = false ∧ look m t = none) ∨ (found (near m b) t = true ∧ ∃ x, (near m b)[pos (near m b) t]? = some x ∧ look m t = some x) := by
  cases h : found (near m b) t with
  | true =>
    right
    obtain ⟨x, hx, hd⟩ := found_mem h
    refine ⟨rfl, x, (found_of (near_up hu b) hx hd).2, ?_⟩
    rw [← hd]
    exact look_some hu (near_mem hx)
  | false =>
    left
    refine ⟨rfl, look_none (fun x hx e => ?_)⟩
    have hh : hd x = b := by rw [← hb]; unfold hd; rw [e]
    have := near_has hu hx
    rw [hh] at this
    rw [(found_of (near_up hu b) this e).1] at h
    cases h
end Go.Proofs.YtllpfpbpdgpnkaaDoor.Ix
