/- Refs: slices.Insert of one ref at the end: walked. -/
import Derived.Test.YtknmmlfdlfioiaaGreatDoorRfRi
namespace Go.Proofs.YtknmmlfdlfioiaaGreatDoor.Rf
open Cb Go.RowKit
/-- What a call leaves of a row of one's own that may have grown. -/
def InsTo (B : Nat) (w : World) (v : Value) (l : List Rf) (e : Ending) (w' : World) : Prop := ∃ v', e = .returned v' ∧ w'.ownsRow B 65 2 v' l.length (rfsV l) ∧ w.grownBy w' v.ownBlock
theorem one_flat {w : World} {g : Nat} {x : Rf} (h0 : w.cell? ⟨g, 0, none⟩ = some (.string x.nm)) (h1 : w.cell? ⟨g, 1, none⟩ = some (.string x.id)) (j : Nat) (u : Value) (h : (rfsV [x])[j]? = some u) : w.cell? ((⟨g, 0, none⟩ : Addr).add j) = some u := by
  rw [Addr.add_lit, Nat.zero_add]
  match j, h with
  | 0, h => simp [rfsV, rfV] at h; subst h; exact h0
  | 1, h => simp [rfsV, rfV] at h; subst h; exact h1
  | j + 2, h => simp [rfsV, rfV] at h
end Go.Proofs.YtknmmlfdlfioiaaGreatDoor.Rf
