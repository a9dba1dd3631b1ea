/- Pressed bytes, whatever they are, spread: plain readings, the program's and the document's. -/
import Derived.Test.YtjiigdjopcegeaaDoorLdSpreadw
namespace Go.Proofs.YtjiigdjopcegeaaDoor.Ld
open Cb
namespace Lz
/-- A number at the beginning: it, what stands behind it, the error. -/
def nm (most : Int) (L : List UInt8) : Nat × List UInt8 × Nat :=
  if (Cd.unnum L).2.2 ≠ 0 then (0, L, (Cd.unnum L).2.2) else if most < ((Cd.unnum L).1 : Int) then (0, L, 6) else ((Cd.unnum L).1, L.drop (Cd.unnum L).2.1, 0)
theorem nm_ok {most : Int} {L R : List UInt8} {n : Nat} (h : nm most L = (n, R, 0)) : (n : Int) ≤ most ∧ (Cd.unnum L).2.2 = 0 ∧ (Cd.unnum L).1 = n ∧ R = L.drop (Cd.unnum L).2.1 := by
  unfold nm at h
  by_cases h1 : (Cd.unnum L).2.2 = 0
  · rw [if_neg (by simpa using h1)] at h
    by_cases h2 : most < ((Cd.unnum L).1 : Int)
    · rw [if_pos h2] at h
      simp at h
    · rw [if_neg h2] at h
      simp only [Prod.mk.injEq, and_true] at h
      obtain ⟨rfl, rfl⟩ := h
      exact ⟨by omega, h1, rfl, rfl⟩
  · rw [if_pos h1] at h
    simp only [Prod.mk.injEq] at h
    exact absurd h.2.2 h1
theorem nm_mk {most : Int} {L : List UInt8} {n : Nat} (h1 : (Cd.unnum L).2.2 = 0) (h2 : (Cd.unnum L).1 = n) (h3 : (n : Int) ≤ most) : nm most L = (n, L.drop (Cd.unnum L).2.1, 0) := by
  unfold nm
  rw [if_neg (by simpa using h1), h2, if_neg (by omega)]
theorem nm_len (most : Int) (L : List UInt8) : (nm most L).2.1.length ≤ L.length := by
  unfold nm
  split
  · exact Nat.le_refl _
  · split
    · exact Nat.le_refl _
    · simp
/-- Bytes that stand for themselves: the error, the text behind them, what is left. -/
def alo (left : Nat) (T L : List UInt8) : Nat × List UInt8 × List UInt8 :=
  if (nm left L).2.2 ≠ 0 then ((nm left L).2.2, T, L) else if (nm left L).2.1.length < (nm left L).1 then (4, T, L) else (0, T ++ (nm left L).2.1.take (nm left L).1, (nm left L).2.1.drop (nm left L).1)
/-- A byte from so far back, again and again. -/
def rep (b : Nat) : Nat → List UInt8 → List UInt8
  | 0, T => T
  | k + 1, T => rep b k T ++ [(rep b k T).getD ((rep b k T).length - b) 0]
theorem rep_len (b k : Nat) (T : List UInt8) : (rep b k T).length = T.length + k := by
  induction k with
  | zero => rfl
  | succ k ih => rw [rep, List.length_append, ih]; simp; omega
/-- A number at the beginning, whatever it tells of. -/
def nq (L : List UInt8) : Nat × List UInt8 × Nat := ((Cd.unnum L).1, L.drop (Cd.unnum L).2.1, (Cd.unnum L).2.2)
/-- A repetition, as the program takes it: both numbers first. -/
def aga (left : Nat) (T L : List UInt8) : Nat × List UInt8 × List UInt8 :=
  if (nq L).2.2 ≠ 0 then ((nq L).2.2, T, L) else if (nq (nq L).2.1).2.2 ≠ 0 then ((nq (nq L).2.1).2.2, T, L)
  else if (nq L).1 = 0 ∨ 32768 < (nq L).1 ∨ T.length < (nq L).1 then (6, T, L)
  else if left < (nq (nq L).2.1).1 + 4 then (6, T, L)
  else (0, rep (nq L).1 ((nq (nq L).2.1).1 + 4) T, (nq (nq L).2.1).2.1)
/-- A repetition, as the document takes it. -/
def agR (left : Nat) (T L : List UInt8) : Nat × List UInt8 × List UInt8 :=
  if (nm 32768 L).2.2 ≠ 0 then ((nm 32768 L).2.2, T, L) else if (nm left (nm 32768 L).2.1).2.2 ≠ 0 then ((nm left (nm 32768 L).2.1).2.2, T, L)
  else if left < (nm left (nm 32768 L).2.1).1 + 4 ∨ (nm 32768 L).1 < 1 ∨ T.length < (nm 32768 L).1 then (6, T, L)
  else (0, rep (nm 32768 L).1 ((nm left (nm 32768 L).2.1).1 + 4) T, (nm left (nm 32768 L).2.1).2.1)
def fin (T L : List UInt8) : Nat × List UInt8 := if L = [] then (0, T) else (5, [])
/-- The text, from so far on. -/
def spF (ag : Nat → List UInt8 → List UInt8 → Nat × List UInt8 × List UInt8) (size : Nat) : Nat → List UInt8 → List UInt8 → Nat × List UInt8
  | 0, _, _ => (6, [])
  | f + 1, T, L =>
    if T.length < size then
      (if (alo (size - T.length) T L).1 ≠ 0 then ((alo (size - T.length) T L).1, [])
       else if (alo (size - T.length) T L).2.1.length = size then fin (alo (size - T.length) T L).2.1 (alo (size - T.length) T L).2.2
       else if (ag (size - (alo (size - T.length) T L).2.1.length) (alo (size - T.length) T L).2.1 (alo (size - T.length) T L).2.2).1 ≠ 0 then ((ag (size - (alo (size - T.length) T L).2.1.length) (alo (size - T.length) T L).2.1 (alo (size - T.length) T L).2.2).1, [])
       else spF ag size f (ag (size - (alo (size - T.length) T L).2.1.length) (alo (size - T.length) T L).2.1 (alo (size - T.length) T L).2.2).2.1 (ag (size - (alo (size - T.length) T L).2.1.length) (alo (size - T.length) T L).2.1 (alo (size - T.length) T L).2.2).2.2)
    else fin T L
def spA (ag : Nat → List UInt8 → List UInt8 → Nat × List UInt8 × List UInt8) (p : List UInt8) (most : Int) : Nat × List UInt8 :=
  if (nm 1048576 p).2.2 ≠ 0 then ((nm 1048576 p).2.2, []) else if most < ((nm 1048576 p).1 : Int) then (3, []) else spF ag (nm 1048576 p).1 ((nm 1048576 p).1 + 1) [] (nm 1048576 p).2.1
/-- What the program spreads, and what the document does. -/
def spP (p : List UInt8) (most : Int) : Nat × List UInt8 := spA aga p most
def spR (p : List UInt8) (most : Int) : Nat × List UInt8 := spA agR p most
theorem nm_nq {most : Int} {L R : List UInt8} {n : Nat} (h : nm most L = (n, R, 0)) : nq L = (n, R, 0) ∧ (n : Int) ≤ most := by
  obtain ⟨h1, h2, h3, h4⟩ := nm_ok h
  exact ⟨by unfold nq; rw [h2, h3, h4], h1⟩
theorem nq_nm {most : Int} {L R : List UInt8} {n : Nat} (h : nq L = (n, R, 0)) (hm : (n : Int) ≤ most) : nm most L = (n, R, 0) := by
  unfold nq at h
  simp only [Prod.mk.injEq] at h
  obtain ⟨h1, h2, h3⟩ := h
  rw [nm_mk h3 h1 hm, h2]
theorem ag_same {left : Nat} {T L : List UInt8} : ((aga left T L).1 = 0 ↔ (agR left T L).1 = 0) ∧ ((aga left T L).1 = 0 → aga left T L = agR left T L) := by
  have key : (aga left T L).1 = 0 → aga left T L = agR left T L ∧ (agR left T L).1 = 0 := by
    intro h
    obtain ⟨b, R1, z1, hb⟩ : ∃ b R z, nq L = (b, R, z) := ⟨_, _, _, rfl⟩
    obtain ⟨q, R2, z2, hq⟩ : ∃ b R z, nq R1 = (b, R, z) := ⟨_, _, _, rfl⟩
    have eA : aga left T L = if z1 ≠ 0 then (z1, T, L) else if z2 ≠ 0 then (z2, T, L) else if b = 0 ∨ 32768 < b ∨ T.length < b then (6, T, L) else if left < q + 4 then (6, T, L) else (0, rep b (q + 4) T, R2) := by
      unfold aga
      rw [hb]
      simp only
      rw [hq]
    rw [eA] at h ⊢
    by_cases c1 : z1 = 0
    · subst c1
      rw [if_neg (by simp)] at h ⊢
      by_cases c2 : z2 = 0
      · subst c2
        rw [if_neg (by simp)] at h ⊢
        by_cases c3 : b = 0 ∨ 32768 < b ∨ T.length < b
        · rw [if_pos c3] at h; simp at h
        · rw [if_neg c3] at h ⊢
          by_cases c4 : left < q + 4
          · rw [if_pos c4] at h; simp at h
          · rw [if_neg c4]
            have hb' : nm 32768 L = (b, R1, 0) := nq_nm hb (by omega)
            have hq' : nm left R1 = (q, R2, 0) := nq_nm hq (by omega)
            have eR : agR left T L = (0, rep b (q + 4) T, R2) := by
              unfold agR
              rw [hb']
              simp only
              rw [hq']
              simp only
              rw [if_neg (by simp), if_neg (by simp), if_neg (by omega)]
            exact ⟨eR.symm, by rw [eR]⟩
      · rw [if_pos c2] at h
        exact absurd h c2
    · rw [if_pos c1] at h
      exact absurd h c1
  refine ⟨⟨fun h => (key h).2, fun h => ?_⟩, fun h => (key h).1⟩
  have hR := h
  unfold agR at hR
  by_cases h1 : (nm 32768 L).2.2 = 0
  · rw [if_neg (by simpa using h1)] at hR
    obtain ⟨b, R1, hb⟩ : ∃ b R1, nm 32768 L = (b, R1, 0) := ⟨_, _, Prod.ext rfl (Prod.ext rfl h1)⟩
    rw [hb] at hR
    simp only at hR
    by_cases h3 : (nm left R1).2.2 = 0
    · rw [if_neg (by simpa using h3)] at hR
      obtain ⟨q, R2, hq⟩ : ∃ q R2, nm left R1 = (q, R2, 0) := ⟨_, _, Prod.ext rfl (Prod.ext rfl h3)⟩
      rw [hq] at hR
      simp only at hR
      by_cases h4 : left < q + 4 ∨ b < 1 ∨ T.length < b
      · rw [if_pos h4] at hR; simp at hR
      · obtain ⟨hb', b1⟩ := nm_nq hb
        obtain ⟨hq', q1⟩ := nm_nq hq
        unfold aga
        rw [hb']
        simp only
        rw [hq']
        simp only
        rw [if_neg (by simp), if_neg (by simp), if_neg (by omega), if_neg (by omega)]
    · rw [if_pos h3] at hR
      exact absurd hR h3
  · rw [if_pos h1] at hR
    exact absurd hR h1
theorem spF_same (size : Nat) : ∀ (f : Nat) (T L : List UInt8), ((spF aga size f T L).1 = 0 ↔ (spF agR size f T L).1 = 0) ∧ ((spF aga size f T L).1 = 0 → spF aga size f T L = spF agR size f T L)
  | 0, T, L => by simp [spF]
  | f + 1, T, L => by
    rw [spF, spF]
    split
    · split
      · exact ⟨Iff.rfl, fun _ => rfl⟩
      · split
        · exact ⟨Iff.rfl, fun _ => rfl⟩
        · obtain ⟨U, hU⟩ : ∃ U, alo (size - T.length) T L = U := ⟨_, rfl⟩
          rw [hU]
          have hs := ag_same (left := size - U.2.1.length) (T := U.2.1) (L := U.2.2)
          by_cases h0 : (aga (size - U.2.1.length) U.2.1 U.2.2).1 = 0
          · have e := hs.2 h0
            have h0' := hs.1.1 h0
            rw [if_neg (by simpa using h0), if_neg (by simpa using h0'), e]
            exact spF_same size f _ _
          · have h0' : ¬ (agR (size - U.2.1.length) U.2.1 U.2.2).1 = 0 := fun h => h0 (hs.1.2 h)
            rw [if_pos h0, if_pos h0']
            exact ⟨⟨fun h => absurd h h0, fun h => absurd h h0'⟩, fun h => absurd h h0⟩
    · exact ⟨Iff.rfl, fun _ => rfl⟩
/-- Program and document spread the same texts (which error they tell may differ). -/
theorem sp_same (p : List UInt8) (most : Int) : ((spP p most).1 = 0 ↔ (spR p most).1 = 0) ∧ ((spP p most).1 = 0 → spP p most = spR p most) := by
  unfold spP spR spA
  split
  · exact ⟨Iff.rfl, fun _ => rfl⟩
  · split
    · exact ⟨Iff.rfl, fun _ => rfl⟩
    · exact spF_same _ _ _ _
end Lz
end Go.Proofs.YtjiigdjopcegeaaDoor.Ld
