/-
  DERIVED. GIVEN WITH THE SEED: THE CARDS: each row of YtogjlepdejonpaaGreatDoorRows.lean that lists a variable, with what it lists TIED to the program's text (the seventh form; the later family's looks); each row that meets fmt, with fmt's text TOLD by the authors' own Lean function (tested against real Go, not proved from fmt's source: count such statements apart). THE CARD IS WHAT COUNTS. Prove the row's statement (the work); the ties are given (YtogjlepdejonpaaGreatDoorTie.lean); close each card by the builder's one call (the guide's Derived/Test/ToyasCard.lean, 'card_holds'). Laid BY PROGRAM, IN A SANDBOX (cutbox-door.mjs). By AI agents, Wed Nov 11 2026. No macro, syntax, notation, axiom, sorry.
-/
import Derived.Test.YtogjlepdejonpaaGreatDoorRows
import GoSem.ClaimSeven
namespace Go.Proofs.YtogjlepdejonpaaGreatDoor
namespace Rows

/-- THE TIED CARD OF 'pollardlaw08.LoosePlays'. -/
def loosePlaysCard : Claim7 := { stood := { row := loosePlaysRow, standIns := [], harness := (true, "a17a0a23bf6fed39fcda22d7aca910f936f11e5ad25270a685ff4d860406d58c"), looks := true }, kinds := [], alts := [], laidByText := true, laidKinds := [.data, .data, .data, .data, .data, .sentinel, .sentinel, .pinned], laidTests := true, laidLooks := .later }
def LoosePlaysCardSaid : Prop := Claim7.holds Tryz.pinned (.plain (OpenSpec.ofChange loosePlaysSpec)) loosePlaysCard

/-- THE TIED CARD OF 'pollardlaw08.LooseFalls'. -/
def looseFallsCard : Claim7 := { stood := { row := looseFallsRow, standIns := [], harness := (true, "a17a0a23bf6fed39fcda22d7aca910f936f11e5ad25270a685ff4d860406d58c"), looks := true }, kinds := [], alts := [], laidByText := true, laidKinds := [.data, .data, .data, .data, .data, .sentinel, .sentinel, .pinned], laidTests := true, laidLooks := .later }
def LooseFallsCardSaid : Prop := Claim7.holds Tryz.pinned (.plain (OpenSpec.ofChange looseFallsSpec)) looseFallsCard

/-- THE TIED CARD OF 'pollardlaw08.LooseSpoilt'. -/
def looseSpoiltCard : Claim7 := { stood := { row := looseSpoiltRow, standIns := [], harness := (true, "a17a0a23bf6fed39fcda22d7aca910f936f11e5ad25270a685ff4d860406d58c"), looks := true }, kinds := [], alts := [], laidByText := true, laidKinds := [.data, .data, .data, .data, .data, .sentinel, .sentinel, .pinned], laidTests := true, laidLooks := .later }
def LooseSpoiltCardSaid : Prop := Claim7.holds Tryz.pinned (.plain (OpenSpec.ofChange looseSpoiltSpec)) looseSpoiltCard

/-- THE TIED CARD OF 'pollardlaw08.LooseDrops'. -/
def looseDropsCard : Claim7 := { stood := { row := looseDropsRow, standIns := [], harness := (true, "a17a0a23bf6fed39fcda22d7aca910f936f11e5ad25270a685ff4d860406d58c"), looks := true }, kinds := [], alts := [], laidByText := true, laidKinds := [.data, .data, .data, .data, .data, .sentinel, .sentinel, .pinned], laidTests := true, laidLooks := .later }
def LooseDropsCardSaid : Prop := Claim7.holds Tryz.pinned (.plain (OpenSpec.ofChange looseDropsSpec)) looseDropsCard

/-- THE TIED CARD OF 'pollardlaw08.LooseNone'. -/
def looseNoneCard : Claim7 := { stood := { row := looseNoneRow, standIns := [], harness := (true, "a17a0a23bf6fed39fcda22d7aca910f936f11e5ad25270a685ff4d860406d58c"), looks := true }, kinds := [], alts := [], laidByText := true, laidKinds := [.data, .data, .data, .data, .data, .sentinel, .sentinel, .pinned], laidTests := true, laidLooks := .later }
def LooseNoneCardSaid : Prop := Claim7.holds Tryz.pinned (.plain (OpenSpec.ofChange looseNoneSpec)) looseNoneCard

/-- THE SECOND FORM's CARD OF 'pollardlaw08.LoosePlays'. -/
def loosePlaysUptoCard : Claim7 := { stood := { row := loosePlaysUptoRow, standIns := [], harness := (true, "a17a0a23bf6fed39fcda22d7aca910f936f11e5ad25270a685ff4d860406d58c"), looks := true }, kinds := [], alts := [], laidByText := true, laidKinds := [.data, .data, .data, .data, .data, .sentinel, .sentinel, .pinned], laidTests := true, laidLooks := .later }
def LoosePlaysUptoCardSaid : Prop := Claim7.holds Tryz.pinned (.plain (OpenSpec.upto loosePlaysSpec)) loosePlaysUptoCard

/-- THE SECOND FORM's CARD OF 'pollardlaw08.LooseFalls'. -/
def looseFallsUptoCard : Claim7 := { stood := { row := looseFallsUptoRow, standIns := [], harness := (true, "a17a0a23bf6fed39fcda22d7aca910f936f11e5ad25270a685ff4d860406d58c"), looks := true }, kinds := [], alts := [], laidByText := true, laidKinds := [.data, .data, .data, .data, .data, .sentinel, .sentinel, .pinned], laidTests := true, laidLooks := .later }
def LooseFallsUptoCardSaid : Prop := Claim7.holds Tryz.pinned (.plain (OpenSpec.upto looseFallsSpec)) looseFallsUptoCard

/-- THE SECOND FORM's CARD OF 'pollardlaw08.LooseSpoilt'. -/
def looseSpoiltUptoCard : Claim7 := { stood := { row := looseSpoiltUptoRow, standIns := [], harness := (true, "a17a0a23bf6fed39fcda22d7aca910f936f11e5ad25270a685ff4d860406d58c"), looks := true }, kinds := [], alts := [], laidByText := true, laidKinds := [.data, .data, .data, .data, .data, .sentinel, .sentinel, .pinned], laidTests := true, laidLooks := .later }
def LooseSpoiltUptoCardSaid : Prop := Claim7.holds Tryz.pinned (.plain (OpenSpec.upto looseSpoiltSpec)) looseSpoiltUptoCard

/-- THE SECOND FORM's CARD OF 'pollardlaw08.LooseDrops'. -/
def looseDropsUptoCard : Claim7 := { stood := { row := looseDropsUptoRow, standIns := [], harness := (true, "a17a0a23bf6fed39fcda22d7aca910f936f11e5ad25270a685ff4d860406d58c"), looks := true }, kinds := [], alts := [], laidByText := true, laidKinds := [.data, .data, .data, .data, .data, .sentinel, .sentinel, .pinned], laidTests := true, laidLooks := .later }
def LooseDropsUptoCardSaid : Prop := Claim7.holds Tryz.pinned (.plain (OpenSpec.upto looseDropsSpec)) looseDropsUptoCard

/-- THE SECOND FORM's CARD OF 'pollardlaw08.LooseNone'. -/
def looseNoneUptoCard : Claim7 := { stood := { row := looseNoneUptoRow, standIns := [], harness := (true, "a17a0a23bf6fed39fcda22d7aca910f936f11e5ad25270a685ff4d860406d58c"), looks := true }, kinds := [], alts := [], laidByText := true, laidKinds := [.data, .data, .data, .data, .data, .sentinel, .sentinel, .pinned], laidTests := true, laidLooks := .later }
def LooseNoneUptoCardSaid : Prop := Claim7.holds Tryz.pinned (.plain (OpenSpec.upto looseNoneSpec)) looseNoneUptoCard
end Rows
end Go.Proofs.YtogjlepdejonpaaGreatDoor
