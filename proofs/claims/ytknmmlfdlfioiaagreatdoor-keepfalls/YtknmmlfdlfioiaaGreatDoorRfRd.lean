/- Refs: slices.Delete at refs: walked. -/
import Derived.Test.YtknmmlfdlfioiaaGreatDoorRfRa
import Derived.Lib.SliceRun
import Derived.Deep.RegionLaw
import Derived.Deep.CutRange
namespace Go.Proofs.YtknmmlfdlfioiaaGreatDoor.Rf
open Cb Go.RowKit
theorem frz {w : World} {g : Nat} {cs : Array Value} {t : TypeId} (h : w.heap[g]? = some (.cells cs t (0, 0))) (i : Nat) : w.frozen? ⟨g, i, none⟩ = false := by simp [World.frozen?, h]
theorem setCells_row {w : World} {g o : Nat} {t : TypeId} {cur : Array Value} (vs : List Value) (hg : w.heap[g]? = some (.cells cur t (0, 0))) (hl : o + vs.length ≤ cur.size) (h1 : ∀ v ∈ vs, v.oneCell' = true) : w.setCells g o vs = w.setRow g (splice cur.toList o vs).toArray := by
  have a := run_storeCells_cells (P := Tryz.prog) g o vs 0 w (fun j hj => by
    rw [Nat.add_zero, cellAt hg (Array.getElem?_eq_getElem (by omega))]
    rfl) (fun j hj => frz hg _) h1
  have b := run_storeCells_at Tryz.prog g o t vs 0 cur w hg (by simpa using hl) h1
  rw [Nat.add_zero] at a b
  have := a.symm.trans b
  injection this with _ e
  rw [e, splice, List.append_assoc]
theorem clear_k (w : World) (t e ty : TypeId) (z : Value) (k : Nat) (ht : Tryz.prog.underlying t = some (.slice e)) (hv : ∀ w, (zeroValue e).run Tryz.prog w = .ok z w) (hz : z.cells.size = k) (hk : 0 < k) (h1 : ∀ v ∈ z.cells.toList, v.oneCell' = true) (g o n c : Nat) (cur : Array Value) (T : TypeId) (hg : w.heap[g]? = some (.cells cur T (0, 0))) (hn : 0 < n) (hl : o + n * k ≤ cur.size) :
    ∃ cs : List Value, cs.length = n * k ∧ (Builtin.clear_ #[t] ty #[.slice (some ⟨g, o, none⟩) n c]).run Tryz.prog w = .ok (.tuple #[]) (w.setRow g (splice cur.toList o cs).toArray) := by
  refine ⟨(Builtin.zeroCells z.cells n).toList, by simp [Builtin.zeroCells, hz], ?_⟩
  have h2 : ∀ v ∈ (Builtin.zeroCells z.cells n).toList, v.oneCell' = true := by
    intro v hv'
    simp only [Builtin.zeroCells, Array.toList_map, List.mem_map] at hv'
    obtain ⟨j, hj, rfl⟩ := hv'
    have hlt : j % z.cells.size < z.cells.size := Nat.mod_lt _ (by omega)
    rw [getElem!_pos z.cells _ hlt]
    exact h1 _ (Array.getElem_mem_toList hlt)
  have hst := run_storeCells_at Tryz.prog g o T (Builtin.zeroCells z.cells n).toList 0 cur w hg (by simp [Builtin.zeroCells, hz]; omega) h2
  rw [Nat.add_zero] at hst
  obtain ⟨m, rfl⟩ : ∃ m, n = m + 1 := ⟨n - 1, by omega⟩
  simp only [Builtin.clear_] 
  simp [run_underlying ht, hv, hst, splice, List.append_assoc]
/-- What a call leaves of a row of one's own: all else is as it was. -/
def Lies (w : World) (v v' : Value) : Prop := v'.ownBlock = v.ownBlock ∨ ∃ g, v'.ownBlock = some g ∧ w.heap.size ≤ g
def MvTo (B : Nat) (w : World) (v : Value) (l : List Rf) (e : Ending) (w' : World) : Prop := ∃ v', e = .returned v' ∧ w'.ownsRow B 65 2 v' l.length (rfsV l) ∧ w.grownBy w' v.ownBlock ∧ Lies w v v'
theorem grown_setRow {w W : World} {g : Nat} (hW : w.grownBy W (some g)) (cs : Array Value) : w.grownBy (W.setRow g cs) (some g) :=
  ⟨hW.os, hW.tape, hW.output, by simpa [World.setRow] using hW.size, fun k hk hne => by
    rw [setRow_other W g k cs (fun e => hne (by rw [e]))]
    exact hW.block k hk hne⟩
theorem grown_drew (w : World) (row : Option Nat) : w.grownBy w.drew row := ⟨rfl, rfl, rfl, Nat.le_refl _, fun _ _ _ => rfl⟩
theorem take_splice {α : Type} (L : List α) (off : Nat) (cs : List α) (h : off ≤ L.length) : (splice L off cs).take off = L.take off := by
  rw [splice, List.take_append_of_le_length (by simp; omega), List.take_take, Nat.min_self]
theorem splice_two {α : Type} (L : List α) (off : Nat) (cs : List α) (k : Nat) (h : k = off + cs.length) (hl : off ≤ L.length) : (splice L off cs).take k = L.take off ++ cs := by
  have e : (L.take off).length = off := by rw [List.length_take]; omega
  rw [splice, h, List.take_append, e, List.take_of_length_le (by omega), Nat.add_sub_cancel_left, List.take_append_of_le_length (Nat.le_refl _), List.take_length]
end Go.Proofs.YtknmmlfdlfioiaaGreatDoor.Rf
