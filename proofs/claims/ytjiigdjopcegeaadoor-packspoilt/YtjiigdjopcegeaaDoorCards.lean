/-
  DERIVED. GIVEN WITH THE SEED: THE CARDS: each row of YtjiigdjopcegeaaDoorRows.lean that lists a variable, with what it lists TIED to the program's text (the seventh form; the later family's looks); each row that meets fmt, with fmt's text TOLD by the authors' own Lean function (tested against real Go, not proved from fmt's source: count such statements apart). THE CARD IS WHAT COUNTS. Prove the row's statement (the work); the ties are given (YtjiigdjopcegeaaDoorTie.lean); close each card by the builder's one call (the guide's Derived/Test/ToyasCard.lean, 'card_holds'). Laid BY PROGRAM, IN A SANDBOX (cutbox-door.mjs). By AI agents, Wed Nov 11 2026. No macro, syntax, notation, axiom, sorry.
-/
import Derived.Test.YtjiigdjopcegeaaDoorRows
import GoSem.ClaimSeven
namespace Go.Proofs.YtjiigdjopcegeaaDoor
namespace Rows

/-- THE TIED CARD OF 'pollardlaw10.PackBuilds'. -/
def packBuildsCard : Claim7 := { stood := { row := packBuildsRow, standIns := [], harness := (true, "5a0dece115bc28d22ecc3aaa0db8fc479cd82f5853ef7ca0e85718c5d3a202c4"), looks := false }, kinds := [], alts := [], laidByText := true, laidKinds := [.data], laidTests := true, laidLooks := .later }
def PackBuildsCardSaid : Prop := Claim7.holds Tryd.pinned (.plain (OpenSpec.ofChange packBuildsSpec)) packBuildsCard

/-- THE TIED CARD OF 'pollardlaw10.PackSpoilt'. -/
def packSpoiltCard : Claim7 := { stood := { row := packSpoiltRow, standIns := [], harness := (true, "5a0dece115bc28d22ecc3aaa0db8fc479cd82f5853ef7ca0e85718c5d3a202c4"), looks := false }, kinds := [], alts := [], laidByText := true, laidKinds := [.data], laidTests := true, laidLooks := .later }
def PackSpoiltCardSaid : Prop := Claim7.holds Tryd.pinned (.plain (OpenSpec.ofChange packSpoiltSpec)) packSpoiltCard

/-- THE TIED CARD OF 'pollardlaw10.PackMost'. -/
def packMostCard : Claim7 := { stood := { row := packMostRow, standIns := [], harness := (true, "5a0dece115bc28d22ecc3aaa0db8fc479cd82f5853ef7ca0e85718c5d3a202c4"), looks := false }, kinds := [], alts := [], laidByText := true, laidKinds := [.data], laidTests := true, laidLooks := .later }
def PackMostCardSaid : Prop := Claim7.holds Tryd.pinned (.plain (OpenSpec.ofChange packMostSpec)) packMostCard

/-- THE SECOND FORM's CARD OF 'pollardlaw10.PackBuilds'. -/
def packBuildsUptoCard : Claim7 := { stood := { row := packBuildsUptoRow, standIns := [], harness := (true, "5a0dece115bc28d22ecc3aaa0db8fc479cd82f5853ef7ca0e85718c5d3a202c4"), looks := false }, kinds := [], alts := [], laidByText := true, laidKinds := [.data], laidTests := true, laidLooks := .later }
def PackBuildsUptoCardSaid : Prop := Claim7.holds Tryd.pinned (.plain (OpenSpec.upto packBuildsSpec)) packBuildsUptoCard

/-- THE SECOND FORM's CARD OF 'pollardlaw10.PackSpoilt'. -/
def packSpoiltUptoCard : Claim7 := { stood := { row := packSpoiltUptoRow, standIns := [], harness := (true, "5a0dece115bc28d22ecc3aaa0db8fc479cd82f5853ef7ca0e85718c5d3a202c4"), looks := false }, kinds := [], alts := [], laidByText := true, laidKinds := [.data], laidTests := true, laidLooks := .later }
def PackSpoiltUptoCardSaid : Prop := Claim7.holds Tryd.pinned (.plain (OpenSpec.upto packSpoiltSpec)) packSpoiltUptoCard

/-- THE SECOND FORM's CARD OF 'pollardlaw10.PackMost'. -/
def packMostUptoCard : Claim7 := { stood := { row := packMostUptoRow, standIns := [], harness := (true, "5a0dece115bc28d22ecc3aaa0db8fc479cd82f5853ef7ca0e85718c5d3a202c4"), looks := false }, kinds := [], alts := [], laidByText := true, laidKinds := [.data], laidTests := true, laidLooks := .later }
def PackMostUptoCardSaid : Prop := Claim7.holds Tryd.pinned (.plain (OpenSpec.upto packMostSpec)) packMostUptoCard
end Rows
end Go.Proofs.YtjiigdjopcegeaaDoor
