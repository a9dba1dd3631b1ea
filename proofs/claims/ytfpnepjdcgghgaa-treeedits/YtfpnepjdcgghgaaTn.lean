/- Entries that rise: laid, taken away, found: plain facts. -/
import Derived.Test.YtfpnepjdcgghgaaTlc
namespace Go.Proofs.Ytfpnepjdcgghgaa
open Go.RowKit Go.Shelf
theorem pos_is {l : List En} (hu : Up l) (t : ByteArray) (k : Nat) (hk : k ≤ l.length) (h1 : ∀ j x, j < k → l[j]? = some x → less x.nm t = true) (h2 : ∀ x, l[k]? = some x → less x.nm t = false) : pos l t = k := by
  refine countP_at _ l k hk h1 (fun j x hj hx => ?_)
  rcases Nat.lt_or_eq_of_le hj with h | h
  · obtain ⟨y, hy⟩ : ∃ y, l[k]? = some y := ⟨l[k]'(by have := (List.getElem?_eq_some_iff.1 hx).1; omega), by simp⟩
    have hyx := hu.at h hy hx
    cases hh : less x.nm t with
    | false => rfl
    | true => have := less_trans hyx hh; rw [h2 y hy] at this; cases this
  · subst h
    exact h2 x hx
theorem pos_name {l : List En} (hu : Up l) (k : Nat) (x : En) (hx : l[k]? = some x) : pos l x.nm = k ∧ found l x.nm = true := by
  have hp : pos l x.nm = k := pos_is hu x.nm k (Nat.le_of_lt (List.getElem?_eq_some_iff.1 hx).1) (fun j y hj hy => hu.at hj hy hx) (fun y hy => by rw [hx] at hy; cases hy; exact less_irrefl _)
  refine ⟨hp, ?_⟩
  unfold found
  rw [hp, hx]
  simp
theorem found_name {l : List En} {t : ByteArray} (h : found l t = true) : ∃ x, l[pos l t]? = some x ∧ x.nm = t := by
  unfold found at h
  cases hx : l[pos l t]? with
  | none => rw [hx] at h; cases h
  | some x => rw [hx] at h; exact ⟨x, rfl, of_decide_eq_true h⟩
theorem found_none {l : List En} (t : ByteArray) (h : ∀ (j : Nat) (x : En), l[j]? = some x → x.nm ≠ t) : found l t = false := by
  cases hf : found l t with
  | false => rfl
  | true =>
    obtain ⟨x, hx, hn⟩ := found_name hf
    exact absurd hn (h _ x hx)
theorem look_at {l : List En} (hu : Up l) (k : Nat) (x : En) (hx : l[k]? = some x) : lookE l x.nm = some x := by
  obtain ⟨h1, h2⟩ := pos_name hu k x hx
  unfold lookE
  rw [h2, h1, hx]
  rfl
theorem up_without {l : List En} (hu : Up l) (t : ByteArray) : Up (withoutL l t) := by
  unfold Up withoutL at *
  refine hu.sublist ?_
  conv => rhs; rw [← List.take_append_drop (pos l t) l]
  refine List.Sublist.append (List.Sublist.refl _) ?_
  rw [← List.drop_drop]
  exact List.drop_sublist _ _
theorem pos_before {l : List En} (hu : Up l) (t : ByteArray) (j : Nat) (x : En) (hj : j < pos l t) (hx : l[j]? = some x) : less x.nm t = true := by
  -- all that stand ahead of the place are less
  have key : ∀ (l : List En), Up l → ∀ j x, j < l.countP (fun x => less x.nm t) → l[j]? = some x → less x.nm t = true := by
    intro l
    induction l with
    | nil => intro _ j x hj; simp at hj
    | cons a r ih =>
      intro hu j x hj hx
      have hur : Up r := (List.pairwise_cons.1 hu).2
      have har := (List.pairwise_cons.1 hu).1
      cases ha : less a.nm t with
      | true =>
        rw [List.countP_cons_of_pos (by simpa using ha)] at hj
        cases j with
        | zero => simp at hx; subst hx; exact ha
        | succ j => exact ih hur j x (by omega) (by simpa using hx)
      | false =>
        have h0 : r.countP (fun x => less x.nm t) = 0 := by
          rw [List.countP_eq_zero]
          intro y hy
          have hay := har y hy
          cases hyt : less y.nm t with
          | false => simp
          | true => have := less_trans hay hyt; rw [ha] at this; cases this
        rw [List.countP_cons_of_neg (by simpa using ha), h0] at hj
        omega
  exact key l hu j x hj hx
theorem pos_behind {l : List En} (hu : Up l) (t : ByteArray) (j : Nat) (x : En) (hj : pos l t ≤ j) (hx : l[j]? = some x) : less x.nm t = false := by
  cases hh : less x.nm t with
  | false => rfl
  | true =>
    exfalso
    -- then all up to it are less: too many
    have hle : ∀ i y, i < j + 1 → l[i]? = some y → less y.nm t = true := by
      intro i y hi hy
      rcases Nat.lt_or_eq_of_le (Nat.lt_succ_iff.1 hi) with h | h
      · exact less_trans (hu.at h hy hx) hh
      · subst h; rw [hx] at hy; cases hy; exact hh
    have hlen := (List.getElem?_eq_some_iff.1 hx).1
    have hc : j + 1 ≤ pos l t := by
      unfold pos
      have h1 : (l.take (j + 1)).countP (fun x => less x.nm t) = (l.take (j + 1)).length := by
        rw [List.countP_eq_length]
        intro y hy
        obtain ⟨i, hi⟩ := List.mem_iff_getElem?.1 hy
        rw [List.getElem?_take] at hi
        split at hi
        · exact hle i y (by assumption) hi
        · cases hi
      have h2 := List.Sublist.countP_le (p := fun x : En => less x.nm t) (List.take_sublist (j + 1) l)
      rw [h1, List.length_take] at h2
      omega
    omega
theorem up_with {l : List En} (hu : Up l) (x : En) : Up (withL l x) := by
  unfold Up withL
  rw [List.append_assoc, List.pairwise_append]
  refine ⟨hu.sublist (List.take_sublist _ _), ?_, ?_⟩
  · rw [List.singleton_append, List.pairwise_cons]
    refine ⟨fun y hy => ?_, hu.sublist (List.drop_sublist _ _)⟩
    obtain ⟨i, hi⟩ := List.mem_iff_getElem?.1 hy
    rw [List.getElem?_drop] at hi
    cases hf : found l x.nm with
    | true =>
      obtain ⟨z, hz, hzn⟩ := found_name hf
      rw [hf] at hi
      rw [← hzn]
      exact hu.at (by simp; omega) hz hi
    | false =>
      rw [hf] at hi
      have hnl := pos_behind hu x.nm _ y (by simp) hi
      cases hh : less x.nm y.nm with
      | true => rfl
      | false =>
        exfalso
        have he := less_total hnl hh
        have := (pos_name hu _ y hi).2
        rw [he, hf] at this
        cases this
  · intro a ha b hb
    obtain ⟨i, hi⟩ := List.mem_iff_getElem?.1 ha
    rw [List.getElem?_take] at hi
    split at hi
    · rename_i hlt
      have hax := pos_before hu x.nm i a hlt hi
      rcases List.mem_append.1 hb with hb | hb
      · simp at hb; subst hb; exact hax
      · obtain ⟨k, hk⟩ := List.mem_iff_getElem?.1 hb
        rw [List.getElem?_drop] at hk
        exact hu.at (by omega) hi hk
    · cases hi
theorem with_len (l : List En) (x : En) : (withL l x).length ≤ l.length + 1 := by
  unfold withL
  simp
  have := pos_le l x.nm
  omega
theorem without_len (l : List En) (t : ByteArray) : (withoutL l t).length ≤ l.length := by
  unfold withoutL
  simp
  have := pos_le l t
  omega
theorem without_same {l : List En} {t : ByteArray} (h : found l t = false) : withoutL l t = l := by
  unfold withoutL
  rw [h]
  simp
end Go.Proofs.Ytfpnepjdcgghgaa
