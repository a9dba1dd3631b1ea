/- Places sorted byte by byte, as plain lists: the neighbour ahead is the last place with the same four bytes. -/
import Derived.Test.YtjiigdjopcegeaaDoorLdLzp
namespace Go.Proofs.YtjiigdjopcegeaaDoor.Ld
open Cb
namespace Lz
def eqs (f : Nat → Nat) (l : List Nat) (b : Nat) : List Nat := l.filter fun x => f x == b
def upto (f : Nat → Nat) (l : List Nat) (n : Nat) : List Nat := (List.range n).flatMap (eqs f l)
/-- Sorted by one byte; those of one byte stay in their order. -/
def pass (f : Nat → Nat) (l : List Nat) : List Nat := upto f l 256
theorem upto_succ (f : Nat → Nat) (l : List Nat) (n : Nat) : upto f l (n + 1) = upto f l n ++ eqs f l n := by
  simp [upto, List.range_succ, List.flatMap_append]
theorem upto_perm (f : Nat → Nat) (l : List Nat) : ∀ n, (upto f l n).Perm (l.filter fun x => decide (f x < n))
  | 0 => by simp [upto]
  | n + 1 => by
    rw [upto_succ]
    have ih := upto_perm f l n
    have h := List.filter_append_perm (fun x => decide (f x < n)) (l.filter fun x => decide (f x < n + 1))
    refine (ih.append_right _).trans (List.Perm.trans ?_ h)
    rw [List.filter_filter, List.filter_filter]
    have e1 : (l.filter fun x => decide (f x < n) && decide (f x < n + 1)) = l.filter fun x => decide (f x < n) := by
      congr 1; funext x; by_cases h : f x < n <;> simp [h]; omega
    have e2 : (l.filter fun x => (!decide (f x < n)) && decide (f x < n + 1)) = eqs f l n := by
      unfold eqs; congr 1; funext x
      by_cases h : f x = n
      · simp [h]
      · by_cases h2 : f x < n
        · simp [h, h2]
        · have h3 : ¬ f x < n + 1 := by omega
          simp [h, h3]
    rw [e1, e2]
theorem pass_perm (f : Nat → Nat) (l : List Nat) (hf : ∀ x, f x < 256) : (pass f l).Perm l := by
  have := upto_perm f l 256
  rwa [List.filter_eq_self.2 (by intro x _; simpa using hf x)] at this
theorem pass_len (f : Nat → Nat) (l : List Nat) (hf : ∀ x, f x < 256) : (pass f l).length = l.length := (pass_perm f l hf).length_eq
theorem pass_pairwise (f : Nat → Nat) (l : List Nat) (R : Nat → Nat → Prop) (h : l.Pairwise R) : (pass f l).Pairwise fun x y => f x < f y ∨ (f x = f y ∧ R x y) := by
  rw [pass, upto, List.pairwise_flatMap]
  refine ⟨fun b _ => ?_, ?_⟩
  · have h2 : (eqs f l b).Pairwise R := h.filter _
    refine (List.Pairwise.and_mem.1 h2).imp ?_
    rintro x y ⟨hx, hy, hr⟩
    simp only [eqs, List.mem_filter, beq_iff_eq] at hx hy
    exact Or.inr ⟨by rw [hx.2, hy.2], hr⟩
  · refine List.pairwise_lt_range.imp ?_
    intro a b hab x hx y hy
    simp only [eqs, List.mem_filter, beq_iff_eq] at hx hy
    exact Or.inl (by omega)
/-- Where an element comes to stand. -/
def pos (f : Nat → Nat) (l : List Nat) (q : Nat) (x : Nat) : Nat := (upto f l (f x)).length + (eqs f (l.take q) (f x)).length
theorem upto_pre (f : Nat → Nat) (l : List Nat) (n : Nat) : ∀ k, ∃ r, upto f l (n + k) = upto f l n ++ r
  | 0 => ⟨[], by simp⟩
  | k + 1 => by
    obtain ⟨r, hr⟩ := upto_pre f l n k
    exact ⟨r ++ eqs f l (n + k), by rw [← Nat.add_assoc, upto_succ, hr, List.append_assoc]⟩
theorem pass_pos (f : Nat → Nat) (l : List Nat) (hf : ∀ x, f x < 256) (q : Nat) (x : Nat) (hx : l[q]? = some x) : (pass f l)[pos f l q x]? = some x := by
  obtain ⟨r, hr⟩ := upto_pre f l (f x + 1) (255 - f x)
  rw [show f x + 1 + (255 - f x) = 256 by have := hf x; omega] at hr
  obtain ⟨hq, hxq⟩ := List.getElem?_eq_some_iff.1 hx
  have e : l = l.take q ++ x :: l.drop (q + 1) := by
    rw [← hxq, ← List.drop_eq_getElem_cons hq, List.take_append_drop]
  have e2 : eqs f l (f x) = eqs f (l.take q) (f x) ++ x :: eqs f (l.drop (q + 1)) (f x) := by
    conv => lhs; rw [e]
    simp [eqs, List.filter_append]
  rw [pass, hr, upto_succ, e2, pos, List.append_assoc, List.getElem?_append_right (by omega), Nat.add_sub_cancel_left, List.append_assoc, List.getElem?_append_right (by omega)]
  simp
/-- The byte so far behind a place. -/
def key (s : List UInt8) (k x : Nat) : Nat := (s.getD (x + k) 0).toNat
theorem key_lt (s : List UInt8) (k x : Nat) : key s k x < 256 := (s.getD (x + k) 0).toNat_lt
def many (s : List UInt8) : Nat := s.length - 3
def stage (s : List UInt8) : Nat → List Nat
  | 0 => List.range (many s)
  | k + 1 => pass (key s (3 - k)) (stage s k)
def places (s : List UInt8) : List Nat := stage s 4
theorem stage_perm (s : List UInt8) : ∀ k, (stage s k).Perm (List.range (many s))
  | 0 => List.Perm.refl _
  | k + 1 => (pass_perm _ _ (key_lt s _)).trans (stage_perm s k)
theorem stage_len (s : List UInt8) (k : Nat) : (stage s k).length = many s := by rw [(stage_perm s k).length_eq, List.length_range]
theorem stage_lt (s : List UInt8) (k : Nat) {x : Nat} (h : x ∈ stage s k) : x < many s := by
  have := (stage_perm s k).mem_iff.1 h
  simpa using this
theorem stage_nodup (s : List UInt8) (k : Nat) : (stage s k).Nodup := (stage_perm s k).nodup_iff.2 List.nodup_range
def Ord (s : List UInt8) (x y : Nat) : Prop :=
  key s 0 x < key s 0 y ∨ (key s 0 x = key s 0 y ∧ (key s 1 x < key s 1 y ∨ (key s 1 x = key s 1 y ∧ (key s 2 x < key s 2 y ∨ (key s 2 x = key s 2 y ∧ (key s 3 x < key s 3 y ∨ (key s 3 x = key s 3 y ∧ x < y)))))))
theorem places_ord (s : List UInt8) : (places s).Pairwise (Ord s) := by
  have h0 : (stage s 0).Pairwise (· < ·) := List.pairwise_lt_range
  have h1 := pass_pairwise (key s 3) _ _ h0
  have h2 := pass_pairwise (key s 2) _ _ h1
  have h3 := pass_pairwise (key s 1) _ _ h2
  exact pass_pairwise (key s 0) _ _ h3
theorem four_key {s : List UInt8} {x y : Nat} (hx : x < many s) (hy : y < many s) : four s x = four s y ↔ key s 0 x = key s 0 y ∧ key s 1 x = key s 1 y ∧ key s 2 x = key s 2 y ∧ key s 3 x = key s 3 y := by
  unfold many at hx hy
  have at_ : ∀ z k, z + k < s.length → s[z + k]? = some (s.getD (z + k) 0) := by intro z k h; simp [List.getD, h]
  constructor
  · intro h
    have g : ∀ k, k < 4 → key s k x = key s k y := by
      intro k hk
      have := four_at h k hk
      rw [at_ x k (by omega), at_ y k (by omega)] at this
      simp only [Option.some.injEq] at this
      rw [key, key, this]
    exact ⟨g 0 (by omega), g 1 (by omega), g 2 (by omega), g 3 (by omega)⟩
  · rintro ⟨h0, h1, h2, h3⟩
    have g : ∀ k, key s k x = key s k y → s[x + k]? = s[y + k]? ∨ 4 ≤ k := by
      intro k h
      by_cases hk : k < 4
      · left; rw [at_ x k (by omega), at_ y k (by omega)]; congr 1; exact UInt8.toNat_inj.1 h
      · right; omega
    apply List.ext_getElem?
    intro k
    simp only [four, List.getElem?_take, List.getElem?_drop]
    by_cases hk : k < 4
    · rw [if_pos hk, if_pos hk]
      have : k = 0 ∨ k = 1 ∨ k = 2 ∨ k = 3 := by omega
      rcases this with rfl | rfl | rfl | rfl
      · exact (g 0 h0).resolve_right (by omega)
      · exact (g 1 h1).resolve_right (by omega)
      · exact (g 2 h2).resolve_right (by omega)
      · exact (g 3 h3).resolve_right (by omega)
    · rw [if_neg hk, if_neg hk]
theorem look_none (s : List UInt8) (i : Nat) : ∀ K, (∀ k, k < K → four s k ≠ four s i) → look s i K = 0
  | 0, _ => rfl
  | K + 1, h => by rw [look, if_neg (h K (by omega))]; exact look_none s i K (fun k hk => h k (by omega))
theorem look_last (s : List UInt8) (i k : Nat) : ∀ K, k < K → four s k = four s i → (∀ j, k < j → j < K → four s j ≠ four s i) → look s i K = i - k
  | 0, h, _, _ => by omega
  | K + 1, h, he, hn => by
    rw [look]
    by_cases e : k = K
    · subst e; rw [if_pos he]
    · rw [if_neg (hn K (by omega) (by omega))]
      exact look_last s i k K (by omega) he (fun j h1 h2 => hn j h1 (by omega))
theorem place_of (s : List UInt8) {x : Nat} (h : x < many s) : ∃ p : Nat, (places s)[p]? = some x := by
  have : x ∈ places s := (stage_perm s 4).mem_iff.2 (by simpa using h)
  exact List.mem_iff_getElem?.1 this
theorem ord_of (s : List UInt8) {p q x y : Nat} (hp : (places s)[p]? = some x) (hq : (places s)[q]? = some y) (h : p < q) : Ord s x y := by
  obtain ⟨h1, rfl⟩ := List.getElem?_eq_some_iff.1 hp
  obtain ⟨h2, rfl⟩ := List.getElem?_eq_some_iff.1 hq
  exact List.pairwise_iff_getElem.1 (places_ord s) p q h1 h2 h
theorem place_lt (s : List UInt8) {p x : Nat} (h : (places s)[p]? = some x) : x < many s := stage_lt s 4 (List.mem_of_getElem? h)
/-- The neighbour ahead. -/
theorem back_near (s : List UInt8) {p x y : Nat} (hx : (places s)[p]? = some x) (hy : (places s)[p + 1]? = some y) :
    (four s x = four s y → x < y ∧ back s y = if y - x ≤ 32768 then y - x else 0) ∧ (four s x ≠ four s y → back s y = 0) := by
  have lx := place_lt s hx
  have ly := place_lt s hy
  have oxy := ord_of s hx hy (by omega)
  have l4 : ¬ s.length < y + 4 := by unfold many at ly; omega
  refine ⟨fun e => ?_, fun e => ?_⟩
  · have k := (four_key lx ly).1 e
    have hlt : x < y := by unfold Ord at oxy; omega
    have hl : look s y y = y - x := by
      refine look_last s y x y hlt e (fun j h1 h2 ej => ?_)
      have lj : j < many s := by omega
      obtain ⟨q, hq⟩ := place_of s lj
      have kj := (four_key lj ly).1 ej
      rcases Nat.lt_trichotomy q p with hqp | rfl | hqp
      · have := ord_of s hq hx hqp
        unfold Ord at this; omega
      · rw [hx] at hq; simp at hq; omega
      · by_cases h3 : q = p + 1
        · subst h3; rw [hy] at hq; simp at hq; omega
        · have := ord_of s hy hq (by omega)
          unfold Ord at this; omega
    exact ⟨hlt, by rw [back, if_neg l4, hl]⟩
  · have hl : look s y y = 0 := by
      refine look_none s y y (fun j h2 ej => ?_)
      have lj : j < many s := by omega
      obtain ⟨q, hq⟩ := place_of s lj
      have kj := (four_key lj ly).1 ej
      have ne : ¬ (key s 0 x = key s 0 y ∧ key s 1 x = key s 1 y ∧ key s 2 x = key s 2 y ∧ key s 3 x = key s 3 y) := fun h => e ((four_key lx ly).2 h)
      rcases Nat.lt_trichotomy q p with hqp | rfl | hqp
      · have := ord_of s hq hx hqp
        unfold Ord at this oxy; omega
      · rw [hx] at hq; simp at hq; subst hq; exact e ej
      · by_cases h3 : q = p + 1
        · subst h3; rw [hy] at hq; simp at hq; omega
        · have := ord_of s hy hq (by omega)
          unfold Ord at this; omega
    rw [back, if_neg l4, hl]; simp
theorem back_first (s : List UInt8) {y : Nat} (hy : (places s)[0]? = some y) : back s y = 0 := by
  have ly := place_lt s hy
  have l4 : ¬ s.length < y + 4 := by unfold many at ly; omega
  have hl : look s y y = 0 := by
    refine look_none s y y (fun j h2 ej => ?_)
    have lj : j < many s := by omega
    obtain ⟨q, hq⟩ := place_of s lj
    have kj := (four_key lj ly).1 ej
    by_cases h3 : q = 0
    · subst h3; rw [hy] at hq; simp at hq; omega
    · have := ord_of s hy hq (by omega)
      unfold Ord at this; omega
  rw [back, if_neg l4, hl]; simp
theorem back_late (s : List UInt8) {y : Nat} (h : many s ≤ y) : back s y = 0 := by
  unfold many at h
  rw [back, if_pos (by omega)]
end Lz
end Go.Proofs.YtjiigdjopcegeaaDoor.Ld
