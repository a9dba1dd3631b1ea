/- Refs: Get, in the program and in the document. -/
import Derived.Test.YtknmmlfdlfioiaaGreatDoorRfRa
import Derived.Test.YtknmmlfdlfioiaaGreatDoorShelf
namespace Go.Proofs.YtknmmlfdlfioiaaGreatDoor.Rf
open Cb Go.RowKit
theorem clone_any (s : ByteArray) (w : World) (hs : s.size ≤ 281474976710656) : Calls Tryz.prog 66 #[.string s] w fun e w' => e = .returned (.string s) ∧ Below w.heap.size w w' := by
  have H := hideIt (fun w => Tryz.stringslite_Clone s w hs)
  go_enter Tryz.func66, Tryz.ntmps66
  go_wp2_with (first | (go_at_call 86; refine (H.out _).mono ?_; rintro e w1 ⟨rfl, hb⟩))
  go_ret
  exact ⟨rfl, hb⟩
/-- The place of a name, as a number: -1, if it is not there. -/
def idxI (nm : ByteArray) (l : List Rf) : Int := match idxR nm l with
  | some i => (i : Int)
  | none => -1
theorem idxR_none {nm : ByteArray} : ∀ {l : List Rf}, (∀ j y, j < l.length → l[j]? = some y → ¬ y.nm = nm) → idxR nm l = none
  | [], _ => rfl
  | x :: r, h => by
    rw [idxR, if_neg (h 0 x (by simp) rfl), idxR_none (fun j y hj hy => h (j + 1) y (by simp; omega) (by simpa using hy))]
    rfl
theorem idxR_at {nm : ByteArray} : ∀ {l : List Rf} {i : Nat} {x : Rf}, (∀ j y, j < i → l[j]? = some y → ¬ y.nm = nm) → l[i]? = some x → x.nm = nm → idxR nm l = some i
  | [], i, x, _, h, _ => by simp at h
  | y :: r, 0, x, _, h, e => by
    simp at h
    subst h
    rw [idxR, if_pos e]
  | y :: r, i + 1, x, h, hx, e => by
    rw [idxR, if_neg (h 0 y (by omega) rfl), idxR_at (i := i) (x := x) (fun j z hj hz => h (j + 1) z (by omega) (by simpa using hz)) (by simpa using hx) e]
    rfl
theorem RRow.cells {w : World} {v : Value} {l : List Rf} (h : RRow w v l) (hp : 0 < l.length) : ∃ b o c, v = .slice (some ⟨b, o, none⟩) l.length c ∧ l.length ≤ c ∧ b < w.heap.size ∧ ∀ i x, l[i]? = some x → ∀ w', Below w.heap.size w w' → w'.cell? ⟨b, o + i * 2, none⟩ = some (.string x.nm) ∧ w'.cell? ⟨b, o + i * 2 + 1, none⟩ = some (.string x.id) := by
  obtain ⟨h0, a, c, e, h1, h2, h3⟩ := h
  obtain ⟨b, o, rfl, hc⟩ := h3 hp
  refine ⟨b, o, c, e, h1, hc.1, fun i x hi w' hb => ?_⟩
  obtain ⟨d0, d1⟩ := rfsV_at l i x hi
  have := (hc.below hb).2
  exact ⟨this _ _ d0, by rw [Nat.add_assoc]; exact this _ _ d1⟩
theorem RRow.below {w w' : World} {v : Value} {l : List Rf} (h : RRow w v l) (hb : Below w.heap.size w w') : RRow w' v l := VRow.below h hb
end Go.Proofs.YtknmmlfdlfioiaaGreatDoor.Rf
