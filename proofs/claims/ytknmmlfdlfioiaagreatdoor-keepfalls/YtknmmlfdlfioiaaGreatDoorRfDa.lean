/- Refs: what bytes say: plain. -/
import Derived.Test.YtknmmlfdlfioiaaGreatDoorRfEb
import Derived.Test.YtknmmlfdlfioiaaGreatDoorRfRs
import Derived.Test.YtknmmlfdlfioiaaGreatDoorCbUnhexw
namespace Go.Proofs.YtknmmlfdlfioiaaGreatDoor.Rf
open Cb Go.RowKit Go.Shelf
theorem index_none (c : UInt8) (l : List UInt8) (h : c ∉ l) : Lib.index l [c] = -1 := by
  induction l with
  | nil => rfl
  | cons d l ih =>
    have hc : d ≠ c := fun e => h (by simp [e])
    have hr := ih (fun e => h (by simp [e]))
    rw [Lib.index, hr]
    have : ([c] : List UInt8).isPrefixOf (d :: l) = false := by simp [List.isPrefixOf]; exact fun e => hc e.symm
    rw [this]
    simp
theorem index_some (c : UInt8) (a r : List UInt8) (h : c ∉ a) : Lib.index (a ++ c :: r) [c] = (a.length : Int) := by
  induction a with
  | nil => simp [Lib.index, List.isPrefixOf]
  | cons d a ih =>
    have hc : d ≠ c := fun e => h (by simp [e])
    have hr := ih (fun e => h (by simp [e]))
    rw [List.cons_append, Lib.index, hr]
    have : ([c] : List UInt8).isPrefixOf (d :: (a ++ c :: r)) = false := by simp [List.isPrefixOf]; exact fun e => hc e.symm
    rw [this]
    have h2 : ((a.length : Nat) : Int) ≠ -1 := by omega
    simp [h2]
theorem lcut_none (c : UInt8) (l : List UInt8) (h : c ∉ l) : Lib.cut l [c] = (l, [], false) := by
  rw [Lib.cut, index_none c l h]
  rfl
theorem lcut_some (c : UInt8) (a r : List UInt8) (h : c ∉ a) : Lib.cut (a ++ c :: r) [c] = (a, r, true) := by
  rw [Lib.cut, index_some c a r h, if_pos (by omega)]
  simp [List.drop_append]
theorem lcut_at (c : UInt8) (l : List UInt8) : c ∉ l ∨ ∃ a r, l = a ++ c :: r ∧ c ∉ a := by
  induction l with
  | nil => exact .inl (by simp)
  | cons d l ih =>
    by_cases hc : d = c
    · exact .inr ⟨[], l, by simp [hc], by simp⟩
    · rcases ih with h | ⟨a, r, e, ha⟩
      · exact .inl (by simp [h]; exact fun e => hc e.symm)
      · exact .inr ⟨d :: a, r, by simp [e], by simp [ha]; exact fun e => hc e.symm⟩
theorem lcut_le (c : UInt8) (l : List UInt8) : (Lib.cut l [c]).1.length ≤ l.length ∧ (Lib.cut l [c]).2.1.length ≤ l.length ∧ ((Lib.cut l [c]).2.2 = true → (Lib.cut l [c]).2.1.length < l.length) := by
  rcases lcut_at c l with h | ⟨a, r, rfl, h⟩
  · rw [lcut_none c l h]; simp
  · rw [lcut_some c a r h]; simp; omega
/-- A text's first line in two, what stands behind it, and whether it is one. -/
def lineL (S : List UInt8) : List UInt8 × List UInt8 × List UInt8 × Bool := ((Lib.cut (Lib.cut S [10]).1 [32]).1, (Lib.cut (Lib.cut S [10]).1 [32]).2.1, (Lib.cut S [10]).2.1, (Lib.cut S [10]).2.2 && (Lib.cut (Lib.cut S [10]).1 [32]).2.2)
theorem lineR_eq (S : List UInt8) : lineR (Cb.bs S) = (Cb.bs (lineL S).1, Cb.bs (lineL S).2.1, Cb.bs (lineL S).2.2.1, (lineL S).2.2.2) := by
  simp [lineR, cut1, lineL, Cb.bs]
theorem cut1_size (S : List UInt8) : (cut1 (Cb.bs S) 10).1.size ≤ S.length := by
  have h := (lcut_le 10 S).1
  have e : (cut1 (Cb.bs S) 10).1 = Cb.bs (Lib.cut S [10]).1 := by simp [cut1, Cb.bs]
  rw [e, Cb.bs_size]
  exact h
theorem line_le (S : List UInt8) : (lineL S).1.length ≤ S.length ∧ (lineL S).2.1.length ≤ S.length ∧ (lineL S).2.2.1.length ≤ S.length ∧ ((lineL S).2.2.2 = true → (lineL S).2.2.1.length < S.length) := by
  have h := lcut_le 10 S
  have k := lcut_le 32 (Lib.cut S [10]).1
  refine ⟨Nat.le_trans k.1 h.1, Nat.le_trans k.2.1 h.1, h.2.1, fun e => h.2.2 ?_⟩
  have e' : ((Lib.cut S [10]).2.2 && (Lib.cut (Lib.cut S [10]).1 [32]).2.2) = true := e
  rw [Bool.and_eq_true] at e'
  exact e'.1
theorem line_made (a b r : List UInt8) (h1 : 32 ∉ a) (h2 : 10 ∉ a) (h3 : 10 ∉ b) : lineL (a ++ 32 :: b ++ 10 :: r) = (a, b, r, true) := by
  have e1 : Lib.cut (a ++ 32 :: b ++ 10 :: r) [10] = (a ++ 32 :: b, r, true) := lcut_some 10 _ r (by simp [h2, h3])
  rw [lineL, e1, lcut_some 32 a b h1]
  rfl
/-- What a line of a ref says. -/
def lineRef (S : List UInt8) : Option Rf :=
  if (lineL S).2.2.2 = true then match Cd.unhexL (lineL S).1 with
    | some id => if id.length = 32 then some ⟨Cb.bs (lineL S).2.1, Cb.bs id⟩ else none
    | none => none
  else none
/-- The refs that lines say, if each says one. -/
def rowsL : Nat → List UInt8 → Option (List Rf)
  | _, [] => some []
  | 0, _ :: _ => none
  | n + 1, c :: t => match lineRef (c :: t) with
    | some x => (rowsL n (lineL (c :: t)).2.2.1).map (x :: ·)
    | none => none
theorem rows_step (n : Nat) (S : List UInt8) (h : ¬ S = []) : rowsL (n + 1) S = match lineRef S with
    | some x => (rowsL n (lineL S).2.2.1).map (x :: ·)
    | none => none := by
  cases S with
  | nil => exact absurd rfl h
  | cons c t => rfl
/-- The refs that bytes say: the error, the branch, the refs. -/
def decP (S : List UInt8) : Int × List UInt8 × List Rf :=
  if (lineL S).2.2.2 = true ∧ (lineL S).1 = [104, 101, 97, 100] then
    match rowsL (lineL S).2.2.1.length (lineL S).2.2.1 with
    | some L => if chkR (Cb.bs (lineL S).2.1) L = 0 then (0, (lineL S).2.1, L) else (chkR (Cb.bs (lineL S).2.1) L, [], [])
    | none => (6, [], [])
  else (6, [], [])
theorem chk_take (hd : ByteArray) (L : List Rf) : chkR hd (L.take 257) = chkR hd L := by
  by_cases h : L.length ≤ 257
  · rw [List.take_of_length_le h]
  · rw [chkR, chkR, if_pos (by rw [List.length_take]; omega), if_pos (by omega)]
theorem hex_no (c : UInt8) (hc : c = 32 ∨ c = 10) (l : List UInt8) : c ∉ Cd.hexL l := by
  induction l with
  | nil => simp [Cd.hexL]
  | cons b t ih =>
    have hd : ∀ k : Fin 16, Cd.dig k.val ≠ 32 ∧ Cd.dig k.val ≠ 10 := by decide
    have h1 := hd ⟨b.toNat / 16, by have := b.toNat_lt; omega⟩
    have h2 := hd ⟨b.toNat % 16, by omega⟩
    rw [Cd.hexL]
    simp only [List.mem_cons, not_or]
    rcases hc with rfl | rfl
    · exact ⟨fun e => h1.1 e.symm, fun e => h2.1 e.symm, ih⟩
    · exact ⟨fun e => h1.2 e.symm, fun e => h2.2 e.symm, ih⟩
theorem okRef_no {o : ByteArray} (h : okRef o = true) : ∀ c ∈ o.data.toList, c ≠ 32 ∧ c ≠ 10 := by
  rw [okRef, Bool.and_eq_true, Bool.and_eq_true, List.all_eq_true] at h
  intro c hc
  have := h.2.2 c hc
  constructor <;> rintro rfl <;> revert this <;> decide
theorem ext_list (s : ByteArray) (a b : Nat) : (s.extract a b).data.toList = (s.data.toList.take b).drop a := by
  rw [ByteArray.data_extract, Array.toList_extract, List.extract_eq_take_drop, List.drop_take]
theorem refK_no {s : ByteArray} (h : 0 < refK s) : ∀ c ∈ s.data.toList, c ≠ 32 ∧ c ≠ 10 := by
  have key : ∀ (k : Nat) (p : List UInt8), (s.extract 0 k).toList = p → (∀ c ∈ p, c ≠ 32 ∧ c ≠ 10) → okRef (s.extract k s.size) = true → ∀ c ∈ s.data.toList, c ≠ 32 ∧ c ≠ 10 := by
    intro k p e hp ho c hc
    have e1 : s.data.toList.take k = p := by rw [← e, ByteArray.toList_eq, ext_list, List.drop_zero]
    have h2 := okRef_no ho
    rw [ext_list, List.take_of_length_le (by rw [str_len]; omega)] at h2
    rw [← List.take_append_drop k s.data.toList, e1] at hc
    rcases List.mem_append.1 hc with hc | hc
    · exact hp c hc
    · exact h2 c hc
  rw [refK] at h
  split at h
  · rename_i a
    split at h
    · rename_i b
      rw [hasH, Bool.and_eq_true] at a
      exact key 6 _ (by simpa using a.2) (by decide) b
    · omega
  · split at h
    · rename_i a
      split at h
      · rename_i b
        rw [hasT, Bool.and_eq_true] at a
        exact key 5 _ (by simpa using a.2) (by decide) b
      · omega
    · omega
theorem okN_no {s : ByteArray} (h : okN s = true) : ∀ c ∈ s.data.toList, c ≠ 32 ∧ c ≠ 10 := refK_no (by rw [okN, (refK_says s).1] at h; exact of_decide_eq_true h)
theorem head_no {s : ByteArray} (h : headB s = true) : ∀ c ∈ s.data.toList, c ≠ 32 ∧ c ≠ 10 := okN_no (by rw [okN, h]; rfl)
theorem line_enc (x : Rf) (r : List UInt8) (h : okN x.nm = true) : lineL (enc1 x ++ r) = (Cd.hexL x.id.data.toList, x.nm.data.toList, r, true) := by
  have := line_made (Cd.hexL x.id.data.toList) x.nm.data.toList r (hex_no 32 (.inl rfl) _) (hex_no 10 (.inr rfl) _) (fun e => (okN_no h 10 e).2 rfl)
  rw [← this, enc1]
  simp
theorem rows_enc : ∀ (l : List Rf), (∀ x ∈ l, okN x.nm = true ∧ x.id.size = 32) → ∀ n, (l.flatMap enc1).length ≤ n → rowsL n (l.flatMap enc1) = some l
  | [], _, n, _ => by cases n <;> rfl
  | x :: t, h, n, hn => by
    have hx := h x (by simp)
    have e : (x :: t).flatMap enc1 = enc1 x ++ t.flatMap enc1 := rfl
    have hp : 1 ≤ (enc1 x).length := by simp [enc1]; omega
    rw [e] at hn ⊢
    rw [List.length_append] at hn
    obtain ⟨m, rfl⟩ : ∃ m, n = m + 1 := ⟨n - 1, by omega⟩
    rw [rows_step m _ (by intro e'; have := congrArg List.length e'; rw [List.length_append, List.length_nil] at this; omega), lineRef, line_enc x _ hx.1]
    simp only [if_true, Cd.unhex_hex]
    rw [if_pos (by rw [str_len]; exact hx.2), rows_enc t (fun y hy => h y (by simp [hy])) m (by omega), Cb.bs_data, Cb.bs_data]
    rfl
/-- What may be is read again. -/
theorem dec_enc (hd : ByteArray) (l : List Rf) (h : chkR hd l = 0) : decP (encL hd l) = (0, hd.data.toList, l) := by
  obtain ⟨_, h2, _, h4⟩ := chkR_wf h
  have e : lineL (encL hd l) = ([104, 101, 97, 100], hd.data.toList, l.flatMap enc1, true) := by
    have := line_made [104, 101, 97, 100] hd.data.toList (l.flatMap enc1) (by decide) (by decide) (fun e => (head_no h2 10 e).2 rfl)
    rw [← this, encL, headL]
    simp
  rw [decP, e]
  simp only [and_self, if_true]
  rw [rows_enc l h4 _ (Nat.le_refl _)]
  simp only [Cb.bs_data]
  rw [if_pos h]
end Go.Proofs.YtknmmlfdlfioiaaGreatDoor.Rf
