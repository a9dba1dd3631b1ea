/- Which texts may be names, as the program says it, walked. -/
import Derived.Test.YtknmmlfdlfioiaaGreatDoorLbk
namespace Go.Proofs.YtknmmlfdlfioiaaGreatDoor
open Go.RowKit
theorem all_step {s : ByteArray} {f pos : Nat} {p : Nat × Nat → Bool} {b : Bool} (h : pos < s.size) (hb : s.size ≤ pos + f) (e : (Lb.runesF s f pos).all p = b) : ∃ g, s.size ≤ pos + (Utf8.decode s pos).2 + g ∧ (p (Utf8.decode s pos) && (Lb.runesF s g (pos + (Utf8.decode s pos).2)).all p) = b := by
  cases f with
  | zero => omega
  | succ f =>
    have := Lb.width_pos s pos h
    refine ⟨f, by omega, ?_⟩
    rw [← e, Lb.runes_step s f pos h, List.all_cons]
end Go.Proofs.YtknmmlfdlfioiaaGreatDoor
