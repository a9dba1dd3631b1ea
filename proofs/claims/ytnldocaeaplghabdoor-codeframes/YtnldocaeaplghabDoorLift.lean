/- From the listed variable's condition to the table's cells, and the door's own heap: what the rows' proofs share. -/
import Derived.Test.YtnldocaeaplghabDoorLawc
import Derived.Test.YtnldocaeaplghabDoorTie
import Derived.Test.YtnldocaeaplghabDoorCards
import Derived.ProofKit
import Derived.LaidMore
import Derived.OpenShut
import Derived.Stop.Joined
import Derived.Lib.LaidTab
namespace Go.Proofs.YtnldocaeaplghabDoor
open Go.ChangeShapes Go.WideShapes Go.ChangeAt Go.WideMaps Go.WideElems Go.RowKit
theorem ownK : ownKnob Tryd.prog.godebug = none := by kernel_rfl
theorem tWords : (Tryd.prog.globals[0]?).map (·.type) = some 40 := by kernel_rfl
abbrev laidK : List (String × DataW Unit) := Rows.codeChecksRow.laid
theorem door_met (os : Os) (args : Array Value) : laidMetH Tryd.prog laidK ((World.doorLaid Tryd.prog 400 os).forCall (fun _ _ => 0) ⟨#[], args, []⟩).memory :=
  laidMetH_of_parts3 (fuel := 8) (laidMet_of_run' 8 (by kernel_rfl) (by kernel_rfl)) (by kernel_rfl) (by kernel_rfl)
theorem tab_lit : (Rows.laid_pollard_code_checkWords : DataW Unit) = Lib.tabData .u32 (Crc.tab.map fun n : Nat => (n : Int)) := by kernel_rfl
theorem K_of_laid {W : World} (h : laidMetH Tryd.prog laidK W) : KAt W := by
  rw [MakeChecks.laidMetH_plain _ _ _ (by kernel_rfl)] at h
  obtain ⟨ps, ⟨g0, t0, cs0, f0, p0, q0, hg0, ht0, hv0, hd0, _, _⟩, _⟩ := h
  obtain rfl : g0 = 0 := Option.some.inj (hg0.symm.trans (by kernel_rfl))
  obtain rfl := Option.some.inj (tWords.symm.trans ht0)
  rw [tab_lit] at hd0
  have hc := Lib.cells_of_tab Tryd.underlying40 Tryd.underlying24 (by kernel_rfl) (by kernel_rfl) hd0
  intro i hi
  rw [World.var?_cell hg0 hv0 i]
  have e : cs0 = (((Crc.tab.map fun n : Nat => (n : Int)).map fun z => Value.int .u32 z)).toArray := by rw [← hc]
  rw [e]
  have hl : i < Crc.tab.length := hi
  simp only [List.getElem?_toArray, List.getElem?_map, List.getElem?_eq_getElem hl, Option.map_some]
  congr 2
  have hall : ∀ k : Fin 16, Crc.tab.getD k.val 0 = (Crc.word k.val).toNat := by decide +kernel
  have := hall ⟨i, hi⟩
  simp only [List.getD, List.getElem?_eq_getElem hl, Option.getD_some] at this
  rw [this]
theorem byte_of_wf {z : Int} (h : (Lit.int .u8 z).wf = true) : ∃ y : UInt8, z = (y.toNat : Int) := by
  have h2 : 0 ≤ z ∧ z ≤ 255 := by simpa [Lit.wf, IntKind.min, IntKind.max, IntKind.signed, IntKind.bits] using h
  exact ⟨UInt8.ofNat z.toNat, by rw [UInt8.toNat_ofNat']; omega⟩
theorem int_of_wf {z : Int} (h : (Lit.int .i64 z).wf = true) : -9223372036854775808 ≤ z ∧ z ≤ 9223372036854775807 := by
  simpa [Lit.wf, IntKind.min, IntKind.max, IntKind.signed, IntKind.bits] using h
theorem checks_z (s : ByteArray) (z b : Int) (w : World) (hs : s.size ≤ maxLen) (hz : (Lit.int .i64 z).wf = true) (hb : (Lit.int .u8 b).wf = true) (hK : KAt w) :
    Calls Tryd.prog 3 #[.string s, .int .i64 z, .int .u8 b] w fun e w' => e = .returned (.bool true) ∧ Below w.heap.size w w' := by
  obtain ⟨y, rfl⟩ := byte_of_wf hb
  exact checks_law s z y w hs (int_of_wf hz).1 (int_of_wf hz).2 hK
end Go.Proofs.YtnldocaeaplghabDoor
