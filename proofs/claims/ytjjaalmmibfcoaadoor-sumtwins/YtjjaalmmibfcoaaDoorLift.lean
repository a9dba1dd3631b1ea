/- From the listed variable's condition to the table's cells, and the door's own heap: what the rows' proofs share. -/
import Derived.Test.YtjjaalmmibfcoaaDoorLaws
import Derived.Test.YtjjaalmmibfcoaaDoorTie
import Derived.Test.YtjjaalmmibfcoaaDoorCards
import Derived.ProofKit
import Derived.LaidMore
import Derived.OpenShut
import Derived.Stop.Joined
import Derived.Lib.LaidTab
namespace Go.Proofs.YtjjaalmmibfcoaaDoor
open Go.ChangeShapes Go.WideShapes Go.ChangeAt Go.WideMaps Go.WideElems Go.RowKit
theorem ownK : ownKnob Tryd.prog.godebug = none := by kernel_rfl
theorem tRound : (Tryd.prog.globals[0]?).map (·.type) = some 40 := by kernel_rfl
abbrev laidK : List (String × DataW Unit) := Rows.sumNoneRow.laid
theorem door_met (os : Os) (args : Array Value) : laidMetH Tryd.prog laidK ((World.doorLaid Tryd.prog 400 os).forCall (fun _ _ => 0) ⟨#[], args, []⟩).memory :=
  laidMetH_of_parts3 (fuel := 8) (laidMet_of_run' 8 (by kernel_rfl) (by kernel_rfl)) (by kernel_rfl) (by kernel_rfl)
theorem tab_lit : (Rows.laid_pollard_sum_roundWords : DataW Unit) = Lib.tabData .u32 (Sha.salts.map fun n : Nat => (n : Int)) := by kernel_rfl
theorem K_of_laid {W : World} (h : laidMetH Tryd.prog laidK W) : KAt W := by
  rw [MakeChecks.laidMetH_plain _ _ _ (by kernel_rfl)] at h
  obtain ⟨ps, ⟨g0, t0, cs0, f0, p0, q0, hg0, ht0, hv0, hd0, _, _⟩, _⟩ := h
  obtain rfl : g0 = 0 := Option.some.inj (hg0.symm.trans (by kernel_rfl))
  obtain rfl := Option.some.inj (tRound.symm.trans ht0)
  rw [tab_lit] at hd0
  have hc := Lib.cells_of_tab Tryd.underlying40 Tryd.underlying38 (by kernel_rfl) (by kernel_rfl) hd0
  intro i hi
  rw [World.var?_cell hg0 hv0 i]
  have e : cs0 = (((Sha.salts.map fun n : Nat => (n : Int)).map fun z => Value.int .u32 z)).toArray := by rw [← hc]
  rw [e]
  have all : ∀ j, j < 64 → ((((Sha.salts.map fun n : Nat => (n : Int)).map fun z => Value.int .u32 z)).toArray)[j]? = some (.int .u32 ((Sha.salt j).toNat : Int)) := by
    intro j hj
    have hl : j < Sha.salts.length := hj
    simp only [List.getElem?_toArray, List.getElem?_map, List.getElem?_eq_getElem hl, Option.map_some]
    congr 2
    have hall : ∀ k : Fin 64, Sha.salts.getD k.val 0 = (Sha.salt k.val).toNat := by decide +kernel
    have := hall ⟨j, hj⟩
    simp only [List.getD, List.getElem?_eq_getElem hl, Option.getD_some] at this
    rw [this]
  exact all i hi
end Go.Proofs.YtjjaalmmibfcoaaDoor
