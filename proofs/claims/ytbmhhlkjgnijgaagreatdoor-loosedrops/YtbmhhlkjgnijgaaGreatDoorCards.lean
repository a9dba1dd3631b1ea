/-
  DERIVED. GIVEN WITH THE SEED: THE CARDS: each row of YtbmhhlkjgnijgaaGreatDoorRows.lean that lists a variable, with what it lists TIED to the program's text (the seventh form; the later family's looks); each row that meets fmt, with fmt's text TOLD by the authors' own Lean function (tested against real Go, not proved from fmt's source: count such statements apart). THE CARD IS WHAT COUNTS. Prove the row's statement (the work); the ties are given (YtbmhhlkjgnijgaaGreatDoorTie.lean); close each card by the builder's one call (the guide's Derived/Test/ToyasCard.lean, 'card_holds'). Laid BY PROGRAM, IN A SANDBOX (cutbox-door.mjs). By AI agents, Wed Nov 11 2026. No macro, syntax, notation, axiom, sorry.
-/
import Derived.Test.YtbmhhlkjgnijgaaGreatDoorRows
import GoSem.ClaimSeven
namespace Go.Proofs.YtbmhhlkjgnijgaaGreatDoor
namespace Rows

/-- THE TIED CARD OF 'pollardlaw08.LooseFalls'. -/
def looseFallsCard : Claim7 := { stood := { row := looseFallsRow, standIns := [], harness := (true, "9ef7c9633015081cbff295292b9d1ae4db30125cf6cb356adf7149fe1b6c2156"), looks := true }, kinds := [], alts := [], laidByText := true, laidKinds := [.data, .data, .data, .data, .data, .sentinel, .sentinel, .pinned], laidTests := true, laidLooks := .later }
def LooseFallsCardSaid : Prop := Claim7.holds Tryz.pinned (.plain (OpenSpec.ofChange looseFallsSpec)) looseFallsCard

/-- THE TIED CARD OF 'pollardlaw08.LooseDrops'. -/
def looseDropsCard : Claim7 := { stood := { row := looseDropsRow, standIns := [], harness := (true, "9ef7c9633015081cbff295292b9d1ae4db30125cf6cb356adf7149fe1b6c2156"), looks := true }, kinds := [], alts := [], laidByText := true, laidKinds := [.data, .data, .data, .data, .data, .sentinel, .sentinel, .pinned], laidTests := true, laidLooks := .later }
def LooseDropsCardSaid : Prop := Claim7.holds Tryz.pinned (.plain (OpenSpec.ofChange looseDropsSpec)) looseDropsCard

/-- THE TIED CARD OF 'pollardlaw08.LooseNone'. -/
def looseNoneCard : Claim7 := { stood := { row := looseNoneRow, standIns := [], harness := (true, "9ef7c9633015081cbff295292b9d1ae4db30125cf6cb356adf7149fe1b6c2156"), looks := true }, kinds := [], alts := [], laidByText := true, laidKinds := [.data, .data, .data, .data, .data, .sentinel, .sentinel, .pinned], laidTests := true, laidLooks := .later }
def LooseNoneCardSaid : Prop := Claim7.holds Tryz.pinned (.plain (OpenSpec.ofChange looseNoneSpec)) looseNoneCard

/-- THE SECOND FORM's CARD OF 'pollardlaw08.LooseFalls'. -/
def looseFallsUptoCard : Claim7 := { stood := { row := looseFallsUptoRow, standIns := [], harness := (true, "9ef7c9633015081cbff295292b9d1ae4db30125cf6cb356adf7149fe1b6c2156"), looks := true }, kinds := [], alts := [], laidByText := true, laidKinds := [.data, .data, .data, .data, .data, .sentinel, .sentinel, .pinned], laidTests := true, laidLooks := .later }
def LooseFallsUptoCardSaid : Prop := Claim7.holds Tryz.pinned (.plain (OpenSpec.upto looseFallsSpec)) looseFallsUptoCard

/-- THE SECOND FORM's CARD OF 'pollardlaw08.LooseDrops'. -/
def looseDropsUptoCard : Claim7 := { stood := { row := looseDropsUptoRow, standIns := [], harness := (true, "9ef7c9633015081cbff295292b9d1ae4db30125cf6cb356adf7149fe1b6c2156"), looks := true }, kinds := [], alts := [], laidByText := true, laidKinds := [.data, .data, .data, .data, .data, .sentinel, .sentinel, .pinned], laidTests := true, laidLooks := .later }
def LooseDropsUptoCardSaid : Prop := Claim7.holds Tryz.pinned (.plain (OpenSpec.upto looseDropsSpec)) looseDropsUptoCard

/-- THE SECOND FORM's CARD OF 'pollardlaw08.LooseNone'. -/
def looseNoneUptoCard : Claim7 := { stood := { row := looseNoneUptoRow, standIns := [], harness := (true, "9ef7c9633015081cbff295292b9d1ae4db30125cf6cb356adf7149fe1b6c2156"), looks := true }, kinds := [], alts := [], laidByText := true, laidKinds := [.data, .data, .data, .data, .data, .sentinel, .sentinel, .pinned], laidTests := true, laidLooks := .later }
def LooseNoneUptoCardSaid : Prop := Claim7.holds Tryz.pinned (.plain (OpenSpec.upto looseNoneSpec)) looseNoneUptoCard
end Rows
end Go.Proofs.YtbmhhlkjgnijgaaGreatDoor
