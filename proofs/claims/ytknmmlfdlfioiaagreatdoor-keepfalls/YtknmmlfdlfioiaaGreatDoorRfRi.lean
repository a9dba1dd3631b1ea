/- Refs: copyOf. -/
import Derived.Test.YtknmmlfdlfioiaaGreatDoorRfRh
import Derived.Deep.RegionWith
namespace Go.Proofs.YtknmmlfdlfioiaaGreatDoor.Rf
open Cb Go.RowKit
theorem own_slice {w : World} {B n k : Nat} {t : TypeId} {v : Value} {xs : List Value} (h : w.ownsRow B t k v n xs) : ∃ a c, v = .slice a n c := by
  rcases h.2 with ⟨e, h0⟩ | ⟨g, cap, cur, e, r⟩
  · exact ⟨none, 0, by rw [e, h0]⟩
  · exact ⟨_, _, e⟩
theorem own_at {w : World} {B : Nat} {v : Value} {m : List Rf} (h : w.ownsRow B 65 2 v m.length (rfsV m)) (hm : 0 < m.length) : ∃ g cap, v = .slice (some ⟨g, 0, none⟩) m.length cap ∧ B ≤ g ∧ m.length ≤ cap ∧ (∀ i, w.frozen? ⟨g, i, none⟩ = false) ∧ ∀ i x, m[i]? = some x → w.cell? ⟨g, i * 2, none⟩ = some (.string x.nm) ∧ w.cell? ⟨g, i * 2 + 1, none⟩ = some (.string x.id) := by
  rcases h.2 with ⟨e, h0⟩ | ⟨g, cap, cur, e, h1, hg, h2, h3, r1, r2⟩
  · omega
  · refine ⟨g, cap, e, h1, h2, fun i => frz hg i, fun i x hi => ?_⟩
    have hil := (List.getElem?_eq_some_iff.1 hi).1
    obtain ⟨d0, d1⟩ := rfsV_at m i x hi
    subst e
    exact ⟨by rw [h.cellAt (i * 2) (by omega), d0], by rw [h.cellAt (i * 2 + 1) (by omega), d1]⟩
/-- A cell of a row set to what it holds: the row stays. -/
theorem own_set {w : World} {B n k : Nat} {t : TypeId} {g cap : Nat} {xs : List Value} (h : w.ownsRow B t k (.slice (some ⟨g, 0, none⟩) n cap) n xs) (j : Nat) (u : Value) (hj : xs[j]? = some u) : (w.setCell ⟨g, j, none⟩ u).ownsRow B t k (.slice (some ⟨g, 0, none⟩) n cap) n xs := by
  refine ⟨h.1, ?_⟩
  rcases h.2 with ⟨e, h0⟩ | ⟨g', cap', cur, e, h1, hg, h2, h3, r1, r2⟩
  · cases e
  · cases e
    refine .inr ⟨g, cap, cur, rfl, h1, ?_, h2, h3, r1, r2⟩
    rw [heap_setCell_same w g j cur t u hg]
    congr 2
    rw [← r2, List.getElem?_take] at hj
    split at hj
    · rw [Array.getElem?_toList] at hj
      obtain ⟨hlt, e⟩ := Array.getElem?_eq_some_iff.1 hj
      rw [Array.setIfInBounds, dif_pos hlt, ← e, Array.set_getElem_self]
    · cases hj
theorem own_two {w : World} {B : Nat} {g cap : Nat} {m : List Rf} {n : Nat} (h : w.ownsRow B 65 2 (.slice (some ⟨g, 0, none⟩) n cap) n (rfsV m)) (i : Nat) (x : Rf) (hi : m[i]? = some x) : ((w.setCell ⟨g, i * 2, none⟩ (.string x.nm)).setCell ⟨g, i * 2 + 1, none⟩ (.string x.id)).ownsRow B 65 2 (.slice (some ⟨g, 0, none⟩) n cap) n (rfsV m) := by
  obtain ⟨d0, d1⟩ := rfsV_at m i x hi
  exact own_set (own_set h _ _ d0) _ _ d1
theorem own_other {w : World} {B n k : Nat} {t : TypeId} {v : Value} {xs : List Value} (h : w.ownsRow B t k v n xs) (p : Addr) (hp : p.block < B) (u : Value) : (w.setCell p u).ownsRow B t k v n xs := by
  refine ⟨h.1, ?_⟩
  rcases h.2 with h0 | ⟨g, cap, cur, e, h1, hg, r⟩
  · exact .inl h0
  · refine .inr ⟨g, cap, cur, e, h1, ?_, r⟩
    rw [heap_setCell_other w p g u (by omega)]
    exact hg
theorem own_less {w : World} {B B' n k : Nat} {t : TypeId} {v : Value} {xs : List Value} (h : w.ownsRow B t k v n xs) (hB : B' ≤ B) : w.ownsRow B' t k v n xs := by
  refine ⟨h.1, ?_⟩
  rcases h.2 with h0 | ⟨g, cap, cur, e, h1, r⟩
  · exact .inl h0
  · exact .inr ⟨g, cap, cur, e, by omega, r⟩
theorem infoRs : (Tryz.prog.info? 37).map (·.size) = some 2 := by kernel_rfl
/-- Refs of their own that a call made. -/
def CopTo (w : World) (hd : ByteArray) (m : List Rf) (e : Ending) (w' : World) : Prop := ∃ v, e = .returned (.agg #[.string hd, v]) ∧ w'.ownsRow w.heap.size 65 2 v m.length (rfsV m) ∧ Below w.heap.size w w'
end Go.Proofs.YtknmmlfdlfioiaaGreatDoor.Rf
