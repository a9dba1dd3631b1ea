/- Refs: a row moved by an update: walked. -/
import Derived.Test.YtecdjejemohkgaaRfIe
import Derived.Test.YtecdjejemohkgaaRfPb
namespace Go.Proofs.Ytecdjejemohkgaa.Rf
open Cb Go.RowKit Go.Shelf
theorem grown_of {w a b : World} {r : Option Nat} (h : Below w.heap.size w a) (k : a.grownBy b r) : w.grownBy b r :=
  ⟨k.os.trans h.os, k.tape.trans h.tape, k.output.trans h.output, Nat.le_trans h.size k.size, fun j hj hne => (k.block j (Nat.lt_of_lt_of_le hj h.size) hne).trans (h.block j hj)⟩
theorem InsTo.of_below {B : Nat} {w a : World} {v : Value} {l : List Rf} {e : Ending} {b : World} (h : Below w.heap.size w a) (k : InsTo B a v l e b) : InsTo B w v l e b := by
  obtain ⟨v', e1, h1, h2⟩ := k
  exact ⟨v', e1, h1, grown_of h h2⟩
theorem insTo_of_mv {B : Nat} {w : World} {v : Value} {l : List Rf} {e : Ending} {b : World} (k : MvTo B w v l e b) : InsTo B w v l e b := by
  obtain ⟨v', e1, h1, h2, _⟩ := k
  exact ⟨v', e1, h1, h2⟩
/-- Rising refs hold a name just at its place. -/
theorem rise_tail {x : Rf} {r : List Rf} (h : Rise (x :: r)) : Rise r := fun i j a b hij ha hb => h (i + 1) (j + 1) a b (by omega) (by simpa using ha) (by simpa using hb)
theorem set_at (nm id : ByteArray) : ∀ (l : List Rf), Rise l → setR nm id l = if hitR nm l (plc nm l) = true then repR l (plc nm l) ⟨nm, id⟩ else insR l (plc nm l) ⟨nm, id⟩
  | [], _ => rfl
  | x :: r, h => by
    have ih := set_at nm id r (rise_tail h)
    by_cases h1 : x.nm = nm
    · have hp : plc nm (x :: r) = 0 := by simp [plc, List.takeWhile, h1, lt_irrefl]
      have hh : hitR nm (x :: r) 0 = true := by simp [hitR, h1]
      rw [hp, if_pos hh, setR, if_pos h1]
      simp [repR]
    · by_cases h2 : lt nm x.nm
      · have h3 : ¬ lt x.nm nm := fun e => lt_irrefl _ (lt_trans e h2)
        have hp : plc nm (x :: r) = 0 := by simp [plc, List.takeWhile, h3]
        have hh : hitR nm (x :: r) 0 = false := by simp [hitR, h1]
        rw [hp, hh, setR, if_neg h1, if_pos h2]
        simp [insR]
      · have h3 : lt x.nm nm := by
          rcases lt_tri x.nm nm with h | h | h
          · exact h
          · exact absurd h h1
          · exact absurd h h2
        have hp : plc nm (x :: r) = plc nm r + 1 := by simp [plc, List.takeWhile, h3]
        have hh : hitR nm (x :: r) (plc nm r + 1) = hitR nm r (plc nm r) := by simp [hitR]
        rw [hp, hh, setR, if_neg h1, if_neg h2, ih]
        by_cases h4 : hitR nm r (plc nm r) = true
        · rw [if_pos h4, if_pos h4]; simp [repR]
        · rw [if_neg h4, if_neg h4]; simp [insR]
theorem del_at (nm : ByteArray) : ∀ (l : List Rf), Rise l → delR nm l = if hitR nm l (plc nm l) = true then l.take (plc nm l) ++ l.drop (plc nm l + 1) else l
  | [], _ => rfl
  | x :: r, h => by
    have ih := del_at nm r (rise_tail h)
    by_cases h1 : x.nm = nm
    · have hp : plc nm (x :: r) = 0 := by simp [plc, List.takeWhile, h1, lt_irrefl]
      have hh : hitR nm (x :: r) 0 = true := by simp [hitR, h1]
      rw [hp, if_pos hh, delR, if_pos h1]
      simp
    · rw [delR, if_neg h1]
      by_cases h3 : lt x.nm nm
      · have hp : plc nm (x :: r) = plc nm r + 1 := by simp [plc, List.takeWhile, h3]
        have hh : hitR nm (x :: r) (plc nm r + 1) = hitR nm r (plc nm r) := by simp [hitR]
        rw [hp, hh, ih]
        by_cases h4 : hitR nm r (plc nm r) = true
        · rw [if_pos h4, if_pos h4]; simp
        · rw [if_neg h4, if_neg h4]
      · have hp : plc nm (x :: r) = 0 := by simp [plc, List.takeWhile, h3]
        have hh : hitR nm (x :: r) 0 = false := by simp [hitR, h1]
        rw [hp, hh]
        have h2 : lt nm x.nm := by
          rcases lt_tri x.nm nm with h | h | h
          · exact absurd h h3
          · exact absurd h h1
          · exact h
        have : delR nm r = r := by
          rw [ih]
          have hp2 : plc nm r = 0 := by
            cases r with
            | nil => rfl
            | cons y t =>
              have hy := h 0 1 x y (by omega) rfl rfl
              have : ¬ lt y.nm nm := fun e => lt_irrefl _ (lt_trans (lt_trans h2 hy) e)
              simp [plc, List.takeWhile, this]
          rw [hp2]
          cases r with
          | nil => rfl
          | cons y t =>
            have hy := h 0 1 x y (by omega) rfl rfl
            have : ¬ y.nm = nm := fun e => by rw [e] at hy; exact lt_irrefl _ (lt_trans h2 hy)
            simp [hitR, this]
        rw [this]
        simp
theorem plc_le (nm : ByteArray) (l : List Rf) : plc nm l ≤ l.length := (List.takeWhile_prefix _).length_le
theorem hit_lt {nm : ByteArray} {l : List Rf} {n : Nat} (h : hitR nm l n = true) : n < l.length := by
  unfold hitR at h
  cases e : l[n]? with
  | none => rw [e] at h; cases h
  | some x => exact (List.getElem?_eq_some_iff.1 e).1
end Go.Proofs.Ytecdjejemohkgaa.Rf
