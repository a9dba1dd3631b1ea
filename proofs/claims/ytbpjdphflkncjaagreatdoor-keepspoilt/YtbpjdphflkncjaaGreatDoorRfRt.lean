/- Refs: the law's own functions: refs that are not too many: walked. -/
import Derived.Test.YtbpjdphflkncjaaGreatDoorRfRi
namespace Go.Proofs.YtbpjdphflkncjaaGreatDoor.Rf
open Cb Go.RowKit
/-- Refs that a call hands back: another row in what was there. -/
def CutTo (w : World) (hd : ByteArray) (l : List Rf) (e : Ending) (w' : World) : Prop := ∃ v, e = .returned (.agg #[.string hd, v]) ∧ RRow w' v l ∧ Below w.heap.size w w'
theorem RRow.take {w : World} {a : Option Addr} {n c : Nat} {l : List Rf} (h : RRow w (.slice a n c) l) (k : Nat) (hk : k ≤ l.length) : RRow w (.slice a k c) (l.take k) := by
  obtain ⟨h0, a', c', e, h1, h2, h3⟩ := h
  cases e
  have hl : (l.take k).length = k := by rw [List.length_take]; omega
  refine ⟨rfsV_len _, a, c, by rw [hl], by omega, h2, fun hp => ?_⟩
  obtain ⟨b, o, e, hc⟩ := h3 (by omega)
  refine ⟨b, o, e, hc.1, fun i u hu => hc.2 i u ?_⟩
  rw [← rfsV_take, List.getElem?_take] at hu
  split at hu
  · exact hu
  · cases hu
end Go.Proofs.YtbpjdphflkncjaaGreatDoor.Rf
