/- Refs: the same refs in memory of their own. -/
import Derived.Test.YtknmmlfdlfioiaaGreatDoorRfRd
import Derived.Test.YtknmmlfdlfioiaaGreatDoorRfRc
import Derived.Deep.RegionHeld3
namespace Go.Proofs.YtknmmlfdlfioiaaGreatDoor.Rf
open Cb Go.RowKit
theorem VCells.flat {w : World} {b o : Nat} {l : List Value} (h : VCells w b o l) (j : Nat) (u : Value) (hj : l[j]? = some u) : w.cell? ((⟨b, o, none⟩ : Addr).add j) = some u := by
  rw [Addr.add_lit]
  exact h.2 j u hj
/-- A row of its own that a call made. -/
def OwTo (w : World) (m : List Rf) (e : Ending) (w' : World) : Prop := ∃ v, e = .returned v ∧ w'.ownsRow w.heap.size 65 2 v m.length (rfsV m) ∧ Below w.heap.size w w'
theorem own_nil (w : World) (B : Nat) (t : TypeId) (k : Nat) : w.ownsRow B t k (.slice none 0 0) 0 [] := ⟨by simp, .inl ⟨rfl, rfl⟩⟩
end Go.Proofs.YtknmmlfdlfioiaaGreatDoor.Rf
