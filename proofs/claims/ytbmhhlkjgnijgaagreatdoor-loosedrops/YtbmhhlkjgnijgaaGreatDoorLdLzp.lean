/- Texts pressed, as plain lists: how far back the same four bytes stood, what is told, and what telling it means. -/
import Derived.Test.YtbmhhlkjgnijgaaGreatDoorCbPure
namespace Go.Proofs.YtbmhhlkjgnijgaaGreatDoor.Ld
open Cb
namespace Lz
/-- Four bytes at a place. -/
def four (s : List UInt8) (i : Nat) : List UInt8 := (s.drop i).take 4
/-- The last place ahead of i (looking from k on downwards) with the same four bytes: how far back; 0: none. -/
def look (s : List UInt8) (i : Nat) : Nat → Nat
  | 0 => 0
  | k + 1 => if four s k = four s i then i - k else look s i k
/-- How far back the same four bytes stood last; 0: nowhere near. -/
def back (s : List UInt8) (i : Nat) : Nat :=
  if s.length < i + 4 then 0 else if look s i i ≤ 32768 then look s i i else 0
/-- How many bytes at a place are those at another, one by one. -/
def same : List UInt8 → List UInt8 → Nat
  | a :: s, b :: t => if a = b then same s t + 1 else 0
  | _, _ => 0
/-- How many bytes a repetition has. -/
def run (s : List UInt8) (i : Nat) : Nat := 4 + same (s.drop (i + 4 - back s i)) (s.drop (i + 4))
/-- What is told from a place on, where what stands from told on is not told yet. -/
def tell (s : List UInt8) (told i : Nat) : List UInt8 :=
  if _h : i < s.length then
    if back s i = 0 then tell s told (i + 1)
    else Cd.numL (i - told) ++ (s.drop told).take (i - told) ++ Cd.numL (back s i) ++ Cd.numL (run s i - 4) ++ tell s (i + run s i) (i + run s i)
  else if told < s.length then Cd.numL (s.length - told) ++ s.drop told else []
  termination_by s.length - i
  decreasing_by all_goals (try unfold run); omega
def press (s : List UInt8) : List UInt8 := Cd.numL s.length ++ tell s 0 0
theorem tell_next {s : List UInt8} {told i : Nat} (h : i < s.length) (hb : back s i = 0) : tell s told i = tell s told (i + 1) := by
  rw [tell, dif_pos h, if_pos hb]
theorem tell_rep {s : List UInt8} {told i : Nat} (h : i < s.length) (hb : back s i ≠ 0) :
    tell s told i = Cd.numL (i - told) ++ (s.drop told).take (i - told) ++ Cd.numL (back s i) ++ Cd.numL (run s i - 4) ++ tell s (i + run s i) (i + run s i) := by
  rw [tell, dif_pos h, if_neg hb]
theorem tell_end {s : List UInt8} {told i : Nat} (h : ¬ i < s.length) : tell s told i = if told < s.length then Cd.numL (s.length - told) ++ s.drop told else [] := by
  rw [tell, dif_neg h]
theorem look_le (s : List UInt8) (i : Nat) : ∀ k, k ≤ i → look s i k ≤ i
  | 0, _ => by simp [look]
  | k + 1, h => by
    rw [look]
    split
    · omega
    · exact look_le s i k (by omega)
theorem look_some (s : List UInt8) (i : Nat) : ∀ k, k ≤ i → look s i k ≠ 0 → four s (i - look s i k) = four s i
  | 0, _, h => by simp [look] at h
  | k + 1, hk, h => by
    rw [look] at h ⊢
    by_cases e : four s k = four s i
    · rw [if_pos e, show i - (i - k) = k by omega]; exact e
    · rw [if_neg e] at h ⊢
      exact look_some s i k (by omega) h
theorem back_some {s : List UInt8} {i : Nat} (h : back s i ≠ 0) : i + 4 ≤ s.length ∧ 1 ≤ back s i ∧ back s i ≤ i ∧ back s i ≤ 32768 ∧ four s (i - back s i) = four s i := by
  have h1 := look_le s i i (Nat.le_refl _)
  have h2 := look_some s i i (Nat.le_refl _)
  unfold back at h ⊢
  by_cases a : s.length < i + 4
  · rw [if_pos a] at h; omega
  · rw [if_neg a] at h ⊢
    by_cases b : look s i i ≤ 32768
    · rw [if_pos b] at h ⊢
      exact ⟨by omega, by omega, h1, b, h2 h⟩
    · rw [if_neg b] at h; omega
theorem same_le : ∀ a b : List UInt8, same a b ≤ b.length
  | [], _ => by simp [same]
  | _ :: _, [] => by simp [same]
  | x :: s, y :: t => by
    rw [same]
    split
    · have := same_le s t; simp; omega
    · simp
theorem same_at : ∀ (a b : List UInt8) (k : Nat), k < same a b → a[k]? = b[k]?
  | [], _, k, h => by simp [same] at h
  | _ :: _, [], k, h => by simp [same] at h
  | x :: s, y :: t, k, h => by
    rw [same] at h
    by_cases e : x = y
    · rw [if_pos e] at h
      cases k with
      | zero => simp [e]
      | succ k => simpa using same_at s t k (by omega)
    · rw [if_neg e] at h; omega
theorem four_at {s : List UInt8} {i j : Nat} (h : four s i = four s j) (k : Nat) (hk : k < 4) : s[i + k]? = s[j + k]? := by
  have := congrArg (fun l => l[k]?) h
  simp only [four, List.getElem?_take, if_pos hk, List.getElem?_drop] at this
  exact this
theorem run_le {s : List UInt8} {i : Nat} (h : back s i ≠ 0) : i + run s i ≤ s.length := by
  have h1 := back_some h
  have := same_le (s.drop (i + 4 - back s i)) (s.drop (i + 4))
  rw [List.length_drop] at this
  unfold run
  omega
theorem run_at {s : List UInt8} {i : Nat} (h : back s i ≠ 0) (k : Nat) (hk : k < run s i) : s[i + k - back s i]? = s[i + k]? := by
  have h1 := back_some h
  by_cases h4 : k < 4
  · have := four_at h1.2.2.2.2 k h4
    rw [← this]; congr 1; omega
  · unfold run at hk
    have := same_at _ _ (k - 4) (by omega : k - 4 < same (s.drop (i + 4 - back s i)) (s.drop (i + 4)))
    rw [List.getElem?_drop, List.getElem?_drop] at this
    rw [show i + k = i + 4 + (k - 4) by omega, ← this]
    congr 1; omega
/-- Bytes that tell the rest of a text from a place on. -/
inductive Spr (s : List UInt8) : Nat → List UInt8 → Prop
  | done : Spr s s.length []
  | lone (a : Nat) : a < s.length → Spr s a (Cd.numL (s.length - a) ++ s.drop a)
  | rep (a i b n : Nat) (r : List UInt8) : a ≤ i → 1 ≤ b → b ≤ i → b ≤ 32768 → 4 ≤ n → i + n ≤ s.length → (∀ k, k < n → s[i + k - b]? = s[i + k]?) → Spr s (i + n) r →
      Spr s a (Cd.numL (i - a) ++ (s.drop a).take (i - a) ++ Cd.numL b ++ Cd.numL (n - 4) ++ r)
theorem tell_spr (s : List UInt8) (told i : Nat) (h1 : told ≤ i) (h2 : i ≤ s.length) : Spr s told (tell s told i) := by
  by_cases h : i < s.length
  · by_cases hb : back s i = 0
    · rw [tell_next h hb]
      exact tell_spr s told (i + 1) (by omega) (by omega)
    · have hk := back_some hb
      have hr := run_le hb
      have h4 : 4 ≤ run s i := by unfold run; omega
      rw [tell_rep h hb]
      exact .rep told i _ _ _ h1 hk.2.1 hk.2.2.1 hk.2.2.2.1 h4 hr (run_at hb) (tell_spr s _ _ (Nat.le_refl _) hr)
  · rw [tell_end h]
    by_cases ht : told < s.length
    · rw [if_pos ht]; exact .lone _ ht
    · rw [if_neg ht, show told = s.length by omega]; exact .done
  termination_by s.length - i
  decreasing_by all_goals omega
end Lz
end Go.Proofs.YtbmhhlkjgnijgaaGreatDoor.Ld
