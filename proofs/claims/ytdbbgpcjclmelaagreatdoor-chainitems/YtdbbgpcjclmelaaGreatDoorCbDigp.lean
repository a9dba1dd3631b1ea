/- Decimal digits as plain lists: that a number has one form alone, and that the program's reading is the document's. -/
import Derived.Test.YtdbbgpcjclmelaaGreatDoorCbDecw
namespace Go.Proofs.YtdbbgpcjclmelaaGreatDoor.Cb
namespace Dd
def M : Nat := 18446744073709551615
def isD (c : UInt8) : Prop := 48 ≤ c.toNat ∧ c.toNat ≤ 57
def fv (a : Nat) (l : List UInt8) : Nat := l.foldl (fun a c => a * 10 + (c.toNat - 48)) a
theorem fv_ge : ∀ (l : List UInt8) (a : Nat), a ≤ fv a l
  | [], _ => Nat.le_refl _
  | c :: t, a => Nat.le_trans (by omega) (fv_ge t (a * 10 + (c.toNat - 48)))
theorem fv_append (a : Nat) (l : List UInt8) (c : UInt8) : fv a (l ++ [c]) = fv a l * 10 + (c.toNat - 48) := by
  simp [fv, List.foldl_append]
theorem parse_ok : ∀ (l : List UInt8) (a u : Nat), a ≤ M → Lib.parseUintM M a l = .ok u → u = fv a l ∧ (∀ c ∈ l, isD c) ∧ u ≤ M
  | [], a, u, ha, h => by
    rw [Lib.parseUintM] at h
    injection h with h
    subst h
    exact ⟨rfl, by simp, ha⟩
  | c :: t, a, u, _, h => by
    rw [Lib.parseUintM] at h
    by_cases h1 : 48 ≤ c.toNat ∧ c.toNat ≤ 57
    · rw [if_pos h1] at h
      by_cases h2 : 1844674407370955162 ≤ a
      · rw [if_pos h2] at h; cases h
      · rw [if_neg h2] at h
        by_cases h3 : M < a * 10 + (c.toNat - 48)
        · rw [if_pos h3] at h; cases h
        · rw [if_neg h3] at h
          obtain ⟨e1, e2, e3⟩ := parse_ok t _ u (by omega) h
          refine ⟨e1, ?_, e3⟩
          intro x hx
          rcases List.mem_cons.1 hx with rfl | hx
          · exact h1
          · exact e2 x hx
    · rw [if_neg h1] at h; cases h
theorem parse_of : ∀ (l : List UInt8) (a : Nat), (∀ c ∈ l, isD c) → fv a l ≤ M → Lib.parseUintM M a l = .ok (fv a l)
  | [], _, _, _ => rfl
  | c :: t, a, h, hm => by
    have hc : 48 ≤ c.toNat ∧ c.toNat ≤ 57 := h c (by simp)
    have h1 := fv_ge t (a * 10 + (c.toNat - 48))
    have h2 : a * 10 + (c.toNat - 48) ≤ M := Nat.le_trans h1 hm
    unfold M at h2
    rw [Lib.parseUintM, if_pos hc, if_neg (by omega), if_neg (by unfold M; omega)]
    exact parse_of t _ (fun x hx => h x (by simp [hx])) hm
theorem dec_big {u : Nat} (h : ¬ u < 10) : Lib.decDigits u = Lib.decDigits (u / 10) ++ [UInt8.ofNat (48 + u % 10)] := by rw [Lib.decDigits, dif_neg h]
theorem dig_val (d : Nat) (h : d < 10) : (UInt8.ofNat (48 + d)).toNat = 48 + d := by rw [UInt8.toNat_ofNat']; omega
theorem dec_ne (u : Nat) : Lib.decDigits u ≠ [] := by
  by_cases h : u < 10
  · rw [Lib.decDigits_one h]; simp
  · rw [dec_big h]; simp
theorem dec_all (u : Nat) : ∀ c ∈ Lib.decDigits u, isD c := by
  by_cases h : u < 10
  · rw [Lib.decDigits_one h]
    intro c hc
    rw [List.mem_singleton] at hc
    subst hc
    unfold isD
    rw [dig_val u h]; omega
  · have ih := dec_all (u / 10)
    rw [dec_big h]
    intro c hc
    rcases List.mem_append.1 hc with hc | hc
    · exact ih c hc
    · rw [List.mem_singleton] at hc
      subst hc
      unfold isD
      rw [dig_val _ (by omega)]; omega
  termination_by u
  decreasing_by omega
theorem dec_val (u : Nat) : fv 0 (Lib.decDigits u) = u := by
  by_cases h : u < 10
  · rw [Lib.decDigits_one h]
    simp only [fv, List.foldl_cons, List.foldl_nil, dig_val u h]; omega
  · have ih := dec_val (u / 10)
    rw [dec_big h, fv_append, ih, dig_val _ (by omega)]; omega
  termination_by u
  decreasing_by omega
theorem dec_head (u : Nat) (h : ¬ u < 10) : (Lib.decDigits u).head? ≠ some 48 := by
  rw [dec_big h]
  by_cases h2 : u / 10 < 10
  · rw [Lib.decDigits_one h2]
    simp only [List.cons_append, List.head?_cons, ne_eq, Option.some.injEq]
    intro e
    have := congrArg UInt8.toNat e
    rw [dig_val _ h2] at this
    have h48 : (48 : UInt8).toNat = 48 := rfl
    omega
  · have ih := dec_head (u / 10) h2
    cases hd : Lib.decDigits (u / 10) with
    | nil => exact absurd hd (dec_ne _)
    | cons a t =>
      rw [hd] at ih
      simpa using ih
  termination_by u
  decreasing_by omega
theorem dec_form : ∀ (n : Nat) (l : List UInt8), l.length = n → l ≠ [] → (∀ c ∈ l, isD c) → (l.length = 1 ∨ l.head? ≠ some 48) → Lib.decDigits (fv 0 l) = l
  | 0, l, hn, hne, _, _ => absurd (List.eq_nil_of_length_eq_zero hn) hne
  | n + 1, l, hn, hne, hd, hh => by
    rcases List.eq_nil_or_concat l with rfl | ⟨p, c, hpc⟩
    · exact absurd rfl hne
    · rw [List.concat_eq_append] at hpc
      subst hpc
      have hc := hd c (by simp)
      unfold isD at hc
      have ec : UInt8.ofNat (48 + (c.toNat - 48)) = c := by rw [show 48 + (c.toNat - 48) = c.toNat by omega]; exact UInt8.ofNat_toNat
      rw [fv_append]
      cases p with
      | nil =>
        simp only [fv, List.foldl_nil, List.nil_append]
        rw [Lib.decDigits_one (by omega), Nat.zero_mul, Nat.zero_add, ec]
      | cons a t =>
        have hl : ((a :: t) ++ [c]).length ≠ 1 := by simp
        have hh2 : (a :: t).head? ≠ some 48 := by
          rcases hh with hh | hh
          · exact absurd hh hl
          · exact hh
        have ih := dec_form n (a :: t) (by simp at hn ⊢; omega) (by simp) (fun x hx => hd x (List.mem_append.2 (Or.inl hx))) (Or.inr hh2)
        have ha := hd a (by simp)
        unfold isD at ha
        have ha2 : a.toNat ≠ 48 := fun e => hh2 (by
          rw [List.head?_cons]
          congr 1
          exact UInt8.toNat_inj.1 e)
        have hv : 1 ≤ fv 0 (a :: t) := by
          have := fv_ge t (0 * 10 + (a.toNat - 48))
          show 1 ≤ fv (0 * 10 + (a.toNat - 48)) t
          omega
        rw [dec_big (by omega), show (fv 0 (a :: t) * 10 + (c.toNat - 48)) / 10 = fv 0 (a :: t) by omega, show (fv 0 (a :: t) * 10 + (c.toNat - 48)) % 10 = c.toNat - 48 by omega, ih, ec]
/-- What the program answers, and what the document does. -/
def und (l : List UInt8) : Option Nat := match Lib.parseUintB 64 l with | .ok u => if Lib.decDigits u = l then some u else none | _ => none
def okOf (r : Lib.NumEnd Nat) : Option Nat := match r with | .ok u => some u | _ => none
def badHead (l : List UInt8) : Prop := l = [] ∨ 20 < l.length ∨ (1 < l.length ∧ l.head? = some 48)
theorem B64 (l : List UInt8) (h : l ≠ []) : Lib.parseUintB 64 l = Lib.parseUintM M 0 l := by rw [Lib.parseUintB, if_neg h]; rfl
theorem und_bad (l : List UInt8) (h : badHead l) : und l = none := by
  by_cases hne : l = []
  · subst hne; rfl
  · unfold und
    rw [B64 l hne]
    cases hr : Lib.parseUintM M 0 l with
    | ok u =>
      obtain ⟨_, _, hu⟩ := parse_ok l 0 u (by unfold M; omega) hr
      simp only
      rw [if_neg]
      intro e
      have hlen : (Lib.decDigits u).length ≤ 20 := by
        rw [Lib.decDigits_length]
        by_cases h0 : u < 10
        · rw [Lib.nDigits_small h0]; omega
        · exact nd20 u (by omega) (by unfold M at hu; omega)
      rcases h with h | h | ⟨h1, h2⟩
      · exact hne h
      · rw [← e] at h; omega
      · by_cases h0 : u < 10
        · rw [← e, Lib.decDigits_one h0] at h1; simp at h1
        · rw [← e] at h2; exact dec_head u h0 h2
    | _ => rfl
theorem und_good (l : List UInt8) (h : ¬ badHead l) : und l = okOf (Lib.parseUintM M 0 l) := by
  unfold badHead at h
  have hne : l ≠ [] := fun e => h (Or.inl e)
  unfold und okOf
  rw [B64 l hne]
  cases hr : Lib.parseUintM M 0 l with
  | ok u =>
    obtain ⟨e1, e2, _⟩ := parse_ok l 0 u (by unfold M; omega) hr
    have hf := dec_form l.length l rfl hne e2 (by
      by_cases h1 : l.length = 1
      · exact Or.inl h1
      · refine Or.inr (fun e => h (Or.inr (Or.inr ⟨?_, e⟩)))
        have : l.length ≠ 0 := fun e => hne (List.eq_nil_of_length_eq_zero e)
        omega)
    rw [← e1] at hf
    simp only
    rw [if_pos hf]
  | _ => rfl
theorem und_dec (u : Nat) (h : u ≤ M) : und (Lib.decDigits u) = some u := by
  unfold und
  have hv := dec_val u
  rw [B64 _ (dec_ne u), parse_of _ 0 (dec_all u) (by rw [hv]; exact h), hv]
  simp
end Dd
end Go.Proofs.YtdbbgpcjclmelaaGreatDoor.Cb
