/- Deltas: plain readings. -/
import Derived.Test.YtdbbgpcjclmelaaGreatDoorCbPure
namespace Go.Proofs.YtdbbgpcjclmelaaGreatDoor.De
open Cb
namespace Dl
/-- Sixteen bytes at a place. -/
def six (s : List UInt8) (i : Nat) : List UInt8 := (s.drop i).take 16
/-- The place of the first block, from k on, that these bytes are. -/
def blkF (base b : List UInt8) : Nat → Nat → Option Nat
  | 0, _ => none
  | f + 1, k => if k + 16 ≤ base.length then (if six base k = b then some k else blkF base b f (k + 16)) else none
def blk (base b : List UInt8) : Option Nat := blkF base b (base.length + 1) 0
theorem blkF_some {base b : List UInt8} : ∀ {f k p : Nat}, blkF base b f k = some p → k ≤ p ∧ p + 16 ≤ base.length ∧ six base p = b
  | 0, _, _, h => by cases h
  | f + 1, k, p, h => by
    rw [blkF] at h
    by_cases h1 : k + 16 ≤ base.length
    · rw [if_pos h1] at h
      by_cases h2 : six base k = b
      · rw [if_pos h2] at h
        simp only [Option.some.injEq] at h
        subst h
        exact ⟨Nat.le_refl _, h1, h2⟩
      · rw [if_neg h2] at h
        obtain ⟨a, c, d⟩ := blkF_some h
        exact ⟨by omega, c, d⟩
    · rw [if_neg h1] at h
      cases h
theorem blk_some {base b : List UInt8} {p : Nat} (h : blk base b = some p) : p + 16 ≤ base.length ∧ six base p = b := (blkF_some h).2
/-- How many bytes of two texts are the same, one by one. -/
def same : List UInt8 → List UInt8 → Nat
  | a :: s, b :: t => if a = b then same s t + 1 else 0
  | _, _ => 0
theorem same_le : ∀ a b : List UInt8, same a b ≤ a.length ∧ same a b ≤ b.length
  | [], _ => by simp [same]
  | _ :: _, [] => by simp [same]
  | x :: s, y :: t => by
    have := same_le s t
    rw [same]
    split
    · simp; omega
    · simp
theorem same_take : ∀ a b : List UInt8, a.take (same a b) = b.take (same a b)
  | [], _ => by simp [same]
  | _ :: _, [] => by simp [same]
  | x :: s, y :: t => by
    rw [same]
    split
    · rename_i h
      rw [h, List.take_succ_cons, List.take_succ_cons, same_take s t]
    · simp
/-- How many bytes a step takes of the base. -/
def run (base s : List UInt8) (i k : Nat) : Nat := 16 + same (s.drop (i + 16)) (base.drop (k + 16))
/-- Bytes that are put. -/
def putL (s : List UInt8) : List UInt8 := if s = [] then [] else Cd.numL (2 * s.length - 2) ++ s
/-- The block that stands at a place of the text. -/
def at16 (base s : List UInt8) (i : Nat) : Option Nat := if i + 16 ≤ s.length then blk base (six s i) else none
/-- What is told from a place on, where what stands from told on is not told yet. -/
def tell (base s : List UInt8) (told i : Nat) : List UInt8 :=
  if _h : i < s.length then
    match at16 base s i with
    | none => tell base s told (i + 1)
    | some k => putL ((s.drop told).take (i - told)) ++ Cd.numL (2 * run base s i k - 1) ++ Cd.numL k ++ tell base s (i + run base s i k) (i + run base s i k)
  else putL (s.drop told)
  termination_by s.length - i
  decreasing_by all_goals (try unfold run); omega
def make (base s : List UInt8) : List UInt8 := Cd.numL base.length ++ Cd.numL s.length ++ tell base s 0 0
theorem tell_none {base s : List UInt8} {told i : Nat} (h : i < s.length) (hb : at16 base s i = none) : tell base s told i = tell base s told (i + 1) := by
  rw [tell, dif_pos h, hb]
theorem tell_some {base s : List UInt8} {told i k : Nat} (h : i < s.length) (hb : at16 base s i = some k) : tell base s told i = putL ((s.drop told).take (i - told)) ++ Cd.numL (2 * run base s i k - 1) ++ Cd.numL k ++ tell base s (i + run base s i k) (i + run base s i k) := by
  rw [tell, dif_pos h, hb]
theorem tell_end {base s : List UInt8} {told i : Nat} (h : ¬ i < s.length) : tell base s told i = putL (s.drop told) := by
  rw [tell, dif_neg h]
theorem at16_some {base s : List UInt8} {i k : Nat} (h : at16 base s i = some k) : i + 16 ≤ s.length ∧ k + 16 ≤ base.length ∧ six base k = six s i := by
  unfold at16 at h
  split at h
  · rename_i h1
    exact ⟨h1, blk_some h⟩
  · cases h
theorem run_le {base s : List UInt8} {i k : Nat} (h : at16 base s i = some k) : 16 ≤ run base s i k ∧ i + run base s i k ≤ s.length ∧ k + run base s i k ≤ base.length := by
  obtain ⟨h1, h2, _⟩ := at16_some h
  have := same_le (s.drop (i + 16)) (base.drop (k + 16))
  unfold run
  simp only [List.length_drop] at this
  omega
/-- The bytes that a step takes of the base are the text's. -/
theorem run_take {base s : List UInt8} {i k : Nat} (h : at16 base s i = some k) : (base.drop k).take (run base s i k) = (s.drop i).take (run base s i k) := by
  obtain ⟨h1, h2, h3⟩ := at16_some h
  have hs := same_take (s.drop (i + 16)) (base.drop (k + 16))
  unfold run
  unfold six at h3
  rw [List.take_add, List.take_add, h3, List.drop_drop, List.drop_drop, hs]
/-- A number at the beginning: it, what stands behind it, the error. -/
def nm (L : List UInt8) : Nat × List UInt8 × Nat := ((Cd.unnum L).1, L.drop (Cd.unnum L).2.1, (Cd.unnum L).2.2)
theorem nm_num (n : Nat) (R : List UInt8) (hn : n < 9223372036854775808) : nm (Cd.numL n ++ R) = (n, R, 0) := by
  unfold nm
  rw [Cd.unnum_num n hn R]
  simp
/-- The text that steps make of a base, from so far on: the error, the text. -/
def stp (base : List UInt8) (size : Nat) : Nat → List UInt8 → List UInt8 → Nat × List UInt8
  | 0, _, _ => (6, [])
  | f + 1, T, L =>
    if T.length < size then
      (if (nm L).2.2 ≠ 0 then ((nm L).2.2, [])
       else if size - T.length < (nm L).1 / 2 + 1 then (6, [])
       else if (nm L).1 % 2 = 0 then (if (nm L).2.1.length < (nm L).1 / 2 + 1 then (4, []) else stp base size f (T ++ (nm L).2.1.take ((nm L).1 / 2 + 1)) ((nm L).2.1.drop ((nm L).1 / 2 + 1)))
       else if (nm (nm L).2.1).2.2 ≠ 0 then ((nm (nm L).2.1).2.2, [])
       else if base.length < (nm (nm L).2.1).1 ∨ base.length - (nm (nm L).2.1).1 < (nm L).1 / 2 + 1 then (6, [])
       else stp base size f (T ++ (base.drop (nm (nm L).2.1).1).take ((nm L).1 / 2 + 1)) (nm (nm L).2.1).2.1)
    else if L = [] then (0, T) else (5, [])
/-- The text that a delta makes of a base. -/
def app (base d : List UInt8) (most : Int) : Nat × List UInt8 :=
  if (nm d).2.2 ≠ 0 then ((nm d).2.2, []) else if (nm (nm d).2.1).2.2 ≠ 0 then ((nm (nm d).2.1).2.2, [])
  else if (nm d).1 ≠ base.length then (6, []) else if most < ((nm (nm d).2.1).1 : Int) then (3, [])
  else stp base (nm (nm d).2.1).1 ((nm (nm d).2.1).1 + 1) [] (nm (nm d).2.1).2.1
theorem stp_end (base : List UInt8) (size f : Nat) (T : List UInt8) (h : T.length = size) : stp base size (f + 1) T [] = (0, T) := by
  rw [stp, if_neg (by omega), if_pos rfl]
/-- A step that puts bytes. -/
theorem stp_put (base : List UInt8) (size f : Nat) (T M R : List UInt8) (hM : 1 ≤ M.length) (hs : T.length + M.length ≤ size) (hz : size ≤ 100000000) : stp base size (f + 1) T (Cd.numL (2 * M.length - 2) ++ (M ++ R)) = stp base size f (T ++ M) R := by
  rw [stp, if_pos (by omega), nm_num _ _ (by omega)]
  simp only
  have e : (2 * M.length - 2) / 2 + 1 = M.length := by omega
  rw [e, if_neg (by simp), if_neg (by omega), if_pos (by omega), if_neg (by simp), List.take_left, List.drop_left]
/-- A step that takes bytes of the base. -/
theorem stp_take (base : List UInt8) (size f n k : Nat) (T R : List UInt8) (hn : 1 ≤ n) (hs : T.length + n ≤ size) (hk : k + n ≤ base.length) (hb : base.length ≤ 100000000) (hz : size ≤ 100000000) : stp base size (f + 1) T (Cd.numL (2 * n - 1) ++ (Cd.numL k ++ R)) = stp base size f (T ++ (base.drop k).take n) R := by
  rw [stp, if_pos (by omega), nm_num _ _ (by omega)]
  simp only
  rw [nm_num _ _ (by omega)]
  simp only
  have e : (2 * n - 1) / 2 + 1 = n := by omega
  rw [e, if_neg (by simp), if_neg (by omega), if_neg (by omega), if_neg (by simp), if_neg (by omega)]
theorem tell_stp (base s : List UInt8) (hb : base.length ≤ 100000000) (hs : s.length ≤ 100000000) (told i : Nat) (h1 : told ≤ i) (h2 : i ≤ s.length) : ∀ f, s.length - told < f → stp base s.length f (s.take told) (tell base s told i) = (0, s) := by
  intro f hf
  have hlt : ∀ k, k ≤ s.length → (s.take k).length = k := fun k hk => by rw [List.length_take]; omega
  by_cases h : i < s.length
  · cases hk : at16 base s i with
    | none =>
      rw [tell_none h hk]
      exact tell_stp base s hb hs told (i + 1) (by omega) (by omega) f hf
    | some k =>
      obtain ⟨r1, r2, r3⟩ := run_le hk
      have rt := run_take hk
      have ih := tell_stp base s hb hs (i + run base s i k) (i + run base s i k) (Nat.le_refl _) r2
      rw [tell_some h hk]
      have et : s.take i ++ (base.drop k).take (run base s i k) = s.take (i + run base s i k) := by rw [rt, ← List.take_add]
      by_cases h0 : told = i
      · subst h0
        obtain ⟨f', rfl⟩ : ∃ f', f = f' + 1 := ⟨f - 1, by omega⟩
        have e0 : putL ((s.drop told).take (told - told)) = [] := by simp [putL]
        rw [e0, List.nil_append, List.append_assoc, stp_take _ _ _ _ _ _ _ (by omega) (by rw [hlt told (by omega)]; omega) r3 hb hs, et]
        exact ih f' (by omega)
      · obtain ⟨f', rfl⟩ : ∃ f', f = f' + 2 := ⟨f - 2, by omega⟩
        have hM : ((s.drop told).take (i - told)).length = i - told := by rw [List.length_take, List.length_drop]; omega
        have hne : (s.drop told).take (i - told) ≠ [] := fun e => by rw [e] at hM; simp at hM; omega
        have e1 : s.take told ++ (s.drop told).take (i - told) = s.take i := by rw [← List.take_add, show told + (i - told) = i by omega]
        rw [putL, if_neg hne]
        simp only [List.append_assoc]
        rw [stp_put _ _ _ _ _ _ (by omega) (by rw [hlt told (by omega), hM]; omega) hs, e1, stp_take _ _ _ _ _ _ _ (by omega) (by rw [hlt i (by omega)]; omega) r3 hb hs, et]
        exact ih f' (by omega)
  · obtain rfl : i = s.length := by omega
    rw [tell_end h]
    by_cases h0 : told = s.length
    · subst h0
      obtain ⟨f', rfl⟩ : ∃ f', f = f' + 1 := ⟨f - 1, by omega⟩
      have e0 : putL (s.drop s.length) = [] := by simp [putL]
      rw [e0, List.take_length, stp_end _ _ _ _ rfl]
    · obtain ⟨f', rfl⟩ : ∃ f', f = f' + 2 := ⟨f - 2, by omega⟩
      have hM : (s.drop told).length = s.length - told := List.length_drop
      have hne : s.drop told ≠ [] := fun e => by rw [e] at hM; simp at hM; omega
      rw [putL, if_neg hne]
      have := stp_put base s.length (f' + 1) (s.take told) (s.drop told) [] (by omega) (by rw [hlt told (by omega), hM]; omega) hs
      rw [List.append_nil] at this
      rw [this, List.take_append_drop, stp_end _ _ _ _ rfl]
  termination_by s.length - i
  decreasing_by all_goals omega
/-- What is made makes the text. -/
theorem app_make (base s : List UInt8) (most : Int) (hb : base.length ≤ 100000000) (hs : s.length ≤ 100000000) (hm : (s.length : Int) ≤ most) : app base (make base s) most = (0, s) := by
  unfold app make
  rw [List.append_assoc, nm_num _ _ (by omega)]
  simp only
  rw [nm_num _ _ (by omega)]
  simp only
  rw [if_neg (by simp), if_neg (by simp), if_neg (by simp), if_neg (by omega)]
  exact tell_stp base s hb hs 0 0 (Nat.le_refl _) (Nat.zero_le _) _ (by omega)
end Dl
end Go.Proofs.YtdbbgpcjclmelaaGreatDoor.De
