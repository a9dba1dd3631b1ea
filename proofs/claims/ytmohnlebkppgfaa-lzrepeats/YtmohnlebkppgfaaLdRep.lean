/- What two kinds of texts are pressed to, as plain lists. -/
import Derived.Test.YtmohnlebkppgfaaLdAwk4
namespace Go.Proofs.Ytmohnlebkppgfaa.Ld
open Cb
namespace Lz
theorem four_ne {s : List UInt8} {i j : Nat} (k : Nat) (hk : k < 4) (h : s[i + k]? ≠ s[j + k]?) : four s i ≠ four s j := fun e => h (four_at e k hk)
theorem four_eq {s : List UInt8} {i j : Nat} (h : ∀ k, k < 4 → s[i + k]? = s[j + k]?) : four s i = four s j := by
  apply List.ext_getElem?
  intro k
  simp only [four, List.getElem?_take, List.getElem?_drop]
  by_cases hk : k < 4
  · rw [if_pos hk, if_pos hk]; exact h k hk
  · rw [if_neg hk, if_neg hk]
theorem back_none {s : List UInt8} {i : Nat} (h : ∀ k, k < i → four s k ≠ four s i) : back s i = 0 := by
  rw [back, look_none s i i h]
  simp
theorem back_last {s : List UInt8} {i k : Nat} (h4 : i + 4 ≤ s.length) (hk : k < i) (he : four s k = four s i) (hn : ∀ j, k < j → j < i → four s j ≠ four s i) : back s i = if i - k ≤ 32768 then i - k else 0 := by
  rw [back, if_neg (by omega), look_last s i k i hk he hn]
theorem same_zero {a b : List UInt8} (h : a[0]? ≠ b[0]? ∨ b = []) : same a b = 0 := by
  rcases h with h | h
  · cases a with
    | nil => rfl
    | cons x a =>
      cases b with
      | nil => rfl
      | cons y b => rw [same, if_neg (by intro e; subst e; simp at h)]
  · subst h; cases a <;> rfl
theorem run_eq {s : List UInt8} {i b r : Nat} (hb : back s i = b) (h0 : b ≠ 0) (h4 : 4 ≤ r) (hr : i + r ≤ s.length) (hs : ∀ k, k < r → s[i + k - b]? = s[i + k]?) (he : i + r = s.length ∨ s[i + r - b]? ≠ s[i + r]?) : run s i = r := by
  have hk := back_some (s := s) (i := i) (by rw [hb]; exact h0)
  rw [hb] at hk
  rw [← run_same (by rw [hb]; exact h0), hb, same_take r]
  · rw [same_zero, Nat.add_zero]
    rcases he with he | he
    · right
      rw [List.drop_drop, List.drop_of_length_le (by omega)]
    · left
      rw [List.drop_drop, List.drop_drop, List.getElem?_drop, List.getElem?_drop, Nat.add_zero, Nat.add_zero, show i - b + r = i + r - b by omega]
      exact he
  · apply List.ext_getElem?
    intro k
    simp only [List.getElem?_take, List.getElem?_drop]
    by_cases hkr : k < r
    · rw [if_pos hkr, if_pos hkr, ← hs k hkr]; congr 1; omega
    · rw [if_neg hkr, if_neg hkr]
  · rw [List.length_drop]; omega
/-- Places that are passed over. -/
theorem tell_skip {s : List UInt8} {told i : Nat} (j : Nat) (h : i + j ≤ s.length) (hb : ∀ k, i ≤ k → k < i + j → back s k = 0) : tell s told i = tell s told (i + j) := by
  induction j with
  | zero => rfl
  | succ j ih =>
    rw [ih (by omega) (fun k h1 h2 => hb k h1 (by omega)), tell_next (by omega) (hb (i + j) (by omega) (by omega))]
    rfl
/-- A text that comes again and again. -/
def again (t : List UInt8) : Nat → List UInt8
  | 0 => []
  | n + 1 => again t n ++ t
theorem again_len (t : List UInt8) : ∀ n, (again t n).length = n * t.length
  | 0 => by simp [again]
  | n + 1 => by rw [again, List.length_append, again_len t n, Nat.succ_mul]
theorem again_front (t : List UInt8) : ∀ n, again t (n + 1) = t ++ again t n
  | 0 => by simp [again]
  | n + 1 => by
    show again t (n + 1) ++ t = t ++ (again t n ++ t)
    rw [again_front t n, List.append_assoc]
theorem again_shift (t : List UInt8) (n : Nat) (k : Nat) (hk : t.length + k < (again t (n + 1)).length) : (again t (n + 1))[t.length + k]? = (again t (n + 1))[k]? := by
  rw [again_len, Nat.succ_mul] at hk
  have e1 : (again t (n + 1))[t.length + k]? = (again t n)[k]? := by
    rw [again_front, List.getElem?_append_right (by omega), Nat.add_sub_cancel_left]
  rw [e1, again, List.getElem?_append_left (by rw [again_len]; omega)]
def Lone (t : List UInt8) : Prop := 4 ≤ t.length ∧ ∀ i k, k < i → i < t.length → four (t ++ t) i ≠ four (t ++ t) k
theorem press_again (t : List UInt8) (n : Nat) (h : Lone t) (hm : t.length ≤ 32768) : press (again t (n + 2)) = Cd.numL (again t (n + 2)).length ++ Cd.numL t.length ++ t ++ Cd.numL t.length ++ Cd.numL ((again t (n + 2)).length - t.length - 4) := by
  obtain ⟨m, hmd⟩ : ∃ m, t.length = m := ⟨_, rfl⟩
  obtain ⟨U, hU⟩ : ∃ U, again t (n + 2) = U := ⟨_, rfl⟩
  have hf : U = (t ++ t) ++ again t n := by rw [← hU, again_front, again_front, List.append_assoc]
  have hl : U.length = (n + 2) * m := by rw [← hU, again_len, hmd]
  have hl2 : U.length = 2 * m + n * m := by rw [hl, Nat.add_mul]; omega
  have h4 : 4 ≤ m := by rw [← hmd]; exact h.1
  have hsh : ∀ k, m + k < U.length → U[m + k]? = U[k]? := by
    intro k hk
    rw [← hU, ← hmd]
    exact again_shift t (n + 1) k (by rw [hmd, hU]; exact hk)
  have hfour : ∀ i, i < m → four U i = four (t ++ t) i := by
    intro i hi
    rw [hf, four, four, List.drop_append_of_le_length (by simp; omega), List.take_append_of_le_length (by simp; omega)]
  have hdif : ∀ i k, k < i → i < m → four U k ≠ four U i := by
    intro i k h1 h2
    rw [hfour k (by omega), hfour i h2]
    exact fun e => h.2 i k h1 (by omega) e.symm
  have e0 : ∀ k, 0 ≤ k → k < 0 + m → back U k = 0 := fun k _ hk => back_none (fun j hj => hdif k j hj (by omega))
  have em : four U 0 = four U m := four_eq (fun k hk => by rw [Nat.zero_add, hsh k (by omega)])
  have bm : back U m = m := by
    rw [back_last (k := 0) (by omega) (by omega) em (fun j h1 h2 => ?_), Nat.sub_zero, if_pos (by omega)]
    rw [← em]
    exact fun e => hdif j 0 h1 h2 e.symm
  have rm : run U m = U.length - m := by
    refine run_eq bm (by omega) (by omega) (by omega) (fun k hk => ?_) (Or.inl (by omega))
    rw [Nat.add_sub_cancel_left, hsh k (by omega)]
  rw [hU, hmd, press, tell_skip m (by omega) e0, Nat.zero_add, tell_rep (by omega) (by rw [bm]; omega), bm, rm, show m + (U.length - m) = U.length by omega, tell_end (by omega), if_neg (by omega), List.append_nil, List.drop_zero, Nat.sub_zero]
  have et : U.take m = t := by rw [hf, List.append_assoc, ← hmd, List.take_left]
  rw [et]
  simp only [List.append_assoc]
/-- Four letters, many of one kind, the four letters again. -/
def keys (n : Nat) : List UInt8 := [107, 101, 121, 33] ++ List.replicate n 97 ++ [107, 101, 121, 33]
theorem keys_len (n : Nat) : (keys n).length = n + 8 := by simp [keys]
theorem keys_a {n k : Nat} (h1 : 4 ≤ k) (h2 : k < n + 4) : (keys n)[k]? = some 97 := by
  rw [keys, List.append_assoc, List.getElem?_append_right (by simp; omega), List.getElem?_append_left (by simp; omega), List.getElem?_replicate]
  simp; omega
theorem keys_end (n k : Nat) : (keys n)[n + 4 + k]? = [107, 101, 121, 33][k]? := by
  rw [keys, List.getElem?_append_right (by simp)]
  congr 1
  simp
theorem keys_front {n k : Nat} (h : k < 4) : (keys n)[k]? = [107, 101, 121, 33][k]? := by
  rw [keys, List.append_assoc, List.getElem?_append_left (by simpa using h)]
theorem keys_first {n k : Nat} (h1 : 0 < k) (h2 : k < n + 4) : (keys n)[k]? ≠ some 107 := by
  by_cases h : k < 4
  · rw [keys_front h]
    have : k = 1 ∨ k = 2 ∨ k = 3 := by omega
    rcases this with rfl | rfl | rfl <;> decide
  · rw [keys_a (by omega) h2]; decide
theorem press_keys (n : Nat) (hn : 5 ≤ n) : press (keys n) = Cd.numL (n + 8) ++ Cd.numL 5 ++ [107, 101, 121, 33, 97] ++ Cd.numL 1 ++ Cd.numL (n - 5) ++ (if n + 4 ≤ 32768 then Cd.numL 0 ++ Cd.numL (n + 4) ++ Cd.numL 0 else Cd.numL 4 ++ [107, 101, 121, 33]) := by
  have hl := keys_len n
  obtain ⟨U, hU⟩ : ∃ U, keys n = U := ⟨_, rfl⟩
  have ha : ∀ k, 4 ≤ k → k < n + 4 → U[k]? = some 97 := fun k h1 h2 => by rw [← hU]; exact keys_a h1 h2
  have he : ∀ k : Nat, U[n + 4 + k]? = [107, 101, 121, 33][k]? := fun k => by rw [← hU]; exact keys_end n k
  have hf : ∀ k : Nat, k < 4 → U[k]? = [107, 101, 121, 33][k]? := fun k h => by rw [← hU]; exact keys_front h
  have hk : ∀ k, 0 < k → k < n + 4 → U[k]? ≠ some 107 := fun k h1 h2 => by rw [← hU]; exact keys_first h1 h2
  have ht5 : U.take 5 = [107, 101, 121, 33, 97] := by
    apply List.ext_getElem?
    intro k
    rw [List.getElem?_take]
    by_cases h : k < 5
    · rw [if_pos h]
      by_cases h4 : k < 4
      · rw [hf k h4]
        have : k = 0 ∨ k = 1 ∨ k = 2 ∨ k = 3 := by omega
        rcases this with rfl | rfl | rfl | rfl <;> rfl
      · rw [ha k (by omega) (by omega), show k = 4 by omega]; rfl
    · rw [if_neg h]
      rw [List.getElem?_eq_none (by simp; omega)]
  rw [hU] at hl ⊢
  have e0 : ∀ k, 0 ≤ k → k < 0 + 5 → back U k = 0 := by
    intro k _ h5
    refine back_none (fun j hj => four_ne 0 (by omega) ?_)
    rw [Nat.add_zero, Nat.add_zero]
    have hc : k = 1 ∨ k = 2 ∨ k = 3 ∨ k = 4 := by omega
    have hx : ∀ z : Nat, z < 5 → U[z]? = [107, 101, 121, 33, 97][z]? := by
      intro z hz
      have : (U.take 5)[z]? = U[z]? := by rw [List.getElem?_take, if_pos hz]
      rw [← this, ht5]
    rw [hx j (by omega), hx k (by omega)]
    have hj4 : j = 0 ∨ j = 1 ∨ j = 2 ∨ j = 3 := by omega
    rcases hc with rfl | rfl | rfl | rfl <;> rcases hj4 with rfl | rfl | rfl | rfl <;> first | omega | decide
  have b5 : back U 5 = 1 := by
    rw [back_last (k := 4) (by omega) (by omega) (four_eq (fun k hk => by rw [ha _ (by omega) (by omega), ha _ (by omega) (by omega)])) (fun j h1 h2 => by omega)]
    rfl
  have r5 : run U 5 = n - 1 := by
    refine run_eq b5 (by omega) (by omega) (by omega) (fun k hk => by rw [ha _ (by omega) (by omega), ha _ (by omega) (by omega)]) (Or.inr ?_)
    rw [show 5 + (n - 1) - 1 = n + 3 by omega, show 5 + (n - 1) = n + 4 + 0 by omega, he 0, ha _ (by omega) (by omega)]
    decide
  have bn : back U (n + 4) = if n + 4 ≤ 32768 then n + 4 else 0 := by
    rw [back_last (k := 0) (by omega) (by omega) (four_eq (fun k hk => by rw [Nat.zero_add, he k, hf k hk])) (fun j h1 h2 => four_ne 0 (by omega) ?_), Nat.sub_zero]
    rw [Nat.add_zero, he 0]
    exact hk j h1 h2
  have en : U.drop (n + 4) = [107, 101, 121, 33] := by
    apply List.ext_getElem?
    intro k
    rw [List.getElem?_drop, he k]
  rw [press, hl, tell_skip 5 (by omega) e0, Nat.zero_add, tell_rep (by omega) (by rw [b5]; omega), b5, r5, List.drop_zero, Nat.sub_zero, ht5, show 5 + (n - 1) = n + 4 by omega, show n - 1 - 4 = n - 5 by omega]
  by_cases hfar : n + 4 ≤ 32768
  · rw [if_pos hfar] at bn
    have rn : run U (n + 4) = 4 := by
      refine run_eq bn (by omega) (by omega) (by omega) (fun k hk => ?_) (Or.inl (by omega))
      rw [Nat.add_sub_cancel_left, he k, hf k hk]
    rw [if_pos hfar, tell_rep (by omega) (by rw [bn]; omega), bn, rn, tell_end (by omega), if_neg (by omega), Nat.sub_self, List.append_nil]
    simp only [List.append_assoc, List.take_zero, List.nil_append, Nat.sub_self]
  · rw [if_neg hfar] at bn
    have es : ∀ k, n + 4 ≤ k → k < n + 4 + 4 → back U k = 0 := by
      intro k h1 h2
      by_cases e : k = n + 4
      · rw [e]; exact bn
      · rw [back, if_pos (by omega)]
    rw [if_neg hfar, tell_skip 4 (by omega) es, tell_end (by omega), if_pos (by omega), en, hl, show n + 8 - (n + 4) = 4 by omega]
    simp only [List.append_assoc]
end Lz
end Go.Proofs.Ytmohnlebkppgfaa.Ld
