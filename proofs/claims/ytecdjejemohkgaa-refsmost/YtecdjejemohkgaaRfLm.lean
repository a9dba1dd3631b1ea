/- Refs: the law RefsMost: what it lays: plain. -/
import Derived.Test.YtecdjejemohkgaaRfAx
namespace Go.Proofs.Ytecdjejemohkgaa.Rf
open Cb Go.RowKit Go.Shelf
/-- tags/ and two letters -/
def tagN (i : Nat) : ByteArray := (⟨#[116, 97, 103, 115, 47]⟩ : ByteArray) ++ Cb.bs [UInt8.ofNat (97 + i / 26), UInt8.ofNat (97 + i % 26)]
def tagR (i : Nat) : Rf := ⟨tagN i, idS 120⟩
def tagL (k : Nat) : List Rf := (List.range k).map tagR
/-- heads/ and a letter -/
def hedN (i : Nat) : ByteArray := (⟨#[104, 101, 97, 100, 115, 47]⟩ : ByteArray) ++ Cb.bs [UInt8.ofNat (97 + i)]
def hedU (i : Nat) : Up := ⟨hedN i, ⟨#[]⟩, idS 121, false⟩
def hedL (k : Nat) : List Up := (List.range k).map hedU
theorem tag_ok : ∀ i, i < 255 → okN (tagN i) = true := by
  have h : (List.range 255).all (fun i => okN (tagN i)) = true := by
    simp only [okN, (refK_says _).1, refK, hasH, hasT, ByteArray.toList_eq, okRef]
    decide +kernel
  intro i hi
  exact List.all_eq_true.1 h i (List.mem_range.2 hi)
theorem tag_rise : ∀ i, i < 254 → lt (tagN i) (tagN (i + 1)) := by
  have h : (List.range 254).all (fun i => decide (lt (tagN i) (tagN (i + 1)))) = true := by decide +kernel
  intro i hi
  exact of_decide_eq_true (List.all_eq_true.1 h i (List.mem_range.2 hi))
theorem hed_ok : ∀ i, i < 3 → okN (hedN i) = true := by
  have h : (List.range 3).all (fun i => okN (hedN i)) = true := by
    simp only [okN, (refK_says _).1, refK, hasH, hasT, ByteArray.toList_eq, okRef]
    decide +kernel
  intro i hi
  exact List.all_eq_true.1 h i (List.mem_range.2 hi)
theorem hed_apart : ∀ i j, i < 3 → j < 3 → i ≠ j → ¬ hedN i = hedN j := by
  have h : (List.range 3).all (fun i => (List.range 3).all (fun j => decide (i = j) || !decide ((hedN i).data.toList = (hedN j).data.toList))) = true := by decide +kernel
  intro i j hi hj hne e
  have := List.all_eq_true.1 (List.all_eq_true.1 h i (List.mem_range.2 hi)) j (List.mem_range.2 hj)
  rw [e] at this
  simp [hne] at this
theorem hed_tag : ∀ i j, i < 3 → ¬ tagN j = hedN i := by
  intro i j _ e
  have := congrArg (fun s : ByteArray => s.data.toList.head?) e
  simp [tagN, hedN] at this
theorem chkL_mk : ∀ (l : List Rf) (q : ByteArray), (∀ y ∈ l, okN y.nm = true ∧ y.id.size = 32) → (∀ y ∈ l, lt q y.nm) → Ri2 l → chkL (some q) l = 0
  | [], _, _, _, _ => rfl
  | x :: r, q, h, hq, hr => by
    have hx := h x (by simp)
    rw [chkL, if_pos (step_rise hx.1 (decide_eq_true hx.2) (decide_eq_true (hq x (by simp))))]
    exact chkL_mk r x.nm (fun y hy => h y (by simp [hy])) hr.1 hr.2
theorem chkR_mk {hd : ByteArray} {l : List Rf} (hh : headB hd = true) (hl : l.length ≤ 256) (h : ∀ y ∈ l, okN y.nm = true ∧ y.id.size = 32) (hr : Ri2 l) : chkR hd l = 0 := by
  rw [chkR, if_neg (by omega), if_pos hh]
  cases l with
  | nil => rfl
  | cons x r =>
    have hx := h x (by simp)
    rw [chkL, if_pos (step_first hx.1 (decide_eq_true hx.2))]
    exact chkL_mk r x.nm (fun y hy => h y (by simp [hy])) hr.1 hr.2
theorem tag_lt : ∀ (d i : Nat), i + d + 1 < 255 → lt (tagN i) (tagN (i + d + 1))
  | 0, i, h => tag_rise i (by omega)
  | d + 1, i, h => lt_trans (tag_lt d i (by omega)) (tag_rise (i + d + 1) (by omega))
theorem tag_ri : ∀ (k s : Nat), s + k ≤ 255 → Ri2 ((List.range' s k).map tagR)
  | 0, _, _ => trivial
  | k + 1, s, h => by
    rw [List.range'_succ, List.map_cons]
    refine ⟨fun y hy => ?_, tag_ri k (s + 1) (by omega)⟩
    obtain ⟨j, hj, rfl⟩ := List.mem_map.1 hy
    rw [List.mem_range'_1] at hj
    have := tag_lt (j - s - 1) s (by omega)
    rwa [show s + (j - s - 1) + 1 = j by omega] at this
theorem tagL_ri : Ri2 (tagL 255) := by
  have := tag_ri 255 0 (by omega)
  rwa [← List.range_eq_range'] at this
theorem tagL_wf : ∀ y ∈ tagL 255, okN y.nm = true ∧ y.id.size = 32 := by
  intro y hy
  obtain ⟨j, hj, rfl⟩ := List.mem_map.1 hy
  exact ⟨tag_ok j (List.mem_range.1 hj), idS_size 120⟩
theorem tagL_len (k : Nat) : (tagL k).length = k := by simp [tagL]
theorem hedL_len (k : Nat) : (hedL k).length = k := by simp [hedL]
theorem get_none {nm : ByteArray} : ∀ {l : List Rf}, (∀ y ∈ l, ¬ y.nm = nm) → getR l nm = ⟨#[]⟩
  | [], _ => rfl
  | x :: r, h => by rw [getR, if_neg (h x (by simp))]; exact get_none (fun y hy => h y (by simp [hy]))
theorem len_set_new {nm id : ByteArray} : ∀ {l : List Rf}, (∀ y ∈ l, ¬ y.nm = nm) → (setR nm id l).length = l.length + 1
  | [], _ => rfl
  | x :: r, h => by
    rw [setR, if_neg (h x (by simp))]
    split
    · simp
    · have := len_set_new (id := id) (l := r) (fun y hy => h y (List.mem_cons_of_mem _ hy))
      simp [this]
theorem hed_upd (f : ByteArray → ByteArray → Bool) (m : List Rf) (i : Nat) (hi : i < 3) (hm : ∀ y ∈ m, ¬ y.nm = hedN i) : upd mainS m (hedL i) (hedU i) f = 0 := by
  have hask : ask (hedL i) (hedU i) = 0 := by
    rw [ask, if_neg, if_neg (by show ¬ okN (hedN i) = false; rw [hed_ok i hi]; decide), if_neg]
    · rintro (⟨_, h⟩ | ⟨h, _⟩)
      · have := idS_size 121
        exact absurd (decide_eq_true this) (by rw [show decide ((idS 121).size = 32) = false from h]; decide)
      · rw [show emp (hedU i).new = false from id_emp 121] at h; cases h
    · rw [hasN, List.any_eq_true]
      rintro ⟨y, hy, e⟩
      obtain ⟨j, hj, rfl⟩ := List.mem_map.1 hy
      have hj' := List.mem_range.1 hj
      exact hed_apart j i (by omega) hi (by omega) (of_decide_eq_true e)
  have hg : getR m (hedN i) = ⟨#[]⟩ := get_none hm
  rw [upd, if_pos hask, why2, if_neg (by show ¬ ¬ getR m (hedN i) = ⟨#[]⟩; rw [hg]; simp), if_neg (by rintro ⟨h, _⟩; rw [show emp (hedU i).new = false from id_emp 121] at h; cases h), if_pos (.inr (.inl ((emp_iff _).2 rfl)))]
theorem hed_app (f : ByteArray → ByteArray → Bool) : ∀ (d i : Nat) (m : List Rf), i + d ≤ 3 → (∀ y ∈ m, ∀ j, i ≤ j → j < 3 → ¬ y.nm = hedN j) → (appR f mainS m (hedL i) ((List.range' i d).map hedU)).1 = 0 ∧ (appR f mainS m (hedL i) ((List.range' i d).map hedU)).2.length = m.length + d
  | 0, i, m, _, _ => ⟨rfl, rfl⟩
  | d + 1, i, m, h, hm => by
    have hu := hed_upd f m i (by omega) (fun y hy => hm y hy i (Nat.le_refl _) (by omega))
    have hmv : movR m (hedU i) = setR (hedN i) (idS 121) m := by
      rw [movR, if_neg (by rw [show emp (hedU i).new = false from id_emp 121]; decide)]
      rfl
    have hl : hedL i ++ [hedU i] = hedL (i + 1) := by simp [hedL, List.range_succ]
    have hlen := len_set_new (id := idS 121) (fun y hy => hm y hy i (Nat.le_refl _) (by omega))
    rw [List.range'_succ, List.map_cons, appR, if_pos hu, hmv, hl]
    have ih := hed_app f d (i + 1) (setR (hedN i) (idS 121) m) (by omega) (fun y hy j h1 h2 e => by
      rcases mem_set hy with hy | hy
      · rw [hy] at e
        exact hed_apart i j (by omega) h2 (by omega) e
      · exact hm y hy j (by omega) h2 e)
    exact ⟨ih.1, by rw [ih.2, hlen]; omega⟩
/-- What the last Apply answers: refused from two updates on. -/
theorem most_app (f : ByteArray → ByteArray → Bool) (k : Nat) (hk : k ≤ 3) : ∃ M : List Rf, appP f mainS (tagL 255) (hedL k) = (if 1 < k then 3 else 0, M) ∧ M.length = if 1 < k then 255 else 255 + k := by
  have hc : chkR mainS (tagL 255) = 0 := chkR_mk main_head (by rw [tagL_len]; omega) tagL_wf tagL_ri
  have hh := hed_app f k 0 (tagL 255) (by omega) (fun y hy j _ h2 => by
    obtain ⟨p, hp, rfl⟩ := List.mem_map.1 hy
    exact hed_tag j p h2)
  have e1 : hedL 0 = [] := rfl
  have e2 : (List.range' 0 k).map hedU = hedL k := by rw [hedL, List.range_eq_range']
  rw [e1, e2, tagL_len] at hh
  rw [appP, if_neg (by rw [hedL_len]; omega), if_neg (by rw [hc]; simp), if_neg (by rw [hh.1]; simp), hh.2]
  by_cases h1 : 1 < k
  · rw [if_pos h1, if_pos h1, if_pos (by omega)]
    exact ⟨_, rfl, tagL_len 255⟩
  · rw [if_neg h1, if_neg h1, if_neg (by omega)]
    exact ⟨_, rfl, hh.2⟩
end Go.Proofs.Ytecdjejemohkgaa.Rf
