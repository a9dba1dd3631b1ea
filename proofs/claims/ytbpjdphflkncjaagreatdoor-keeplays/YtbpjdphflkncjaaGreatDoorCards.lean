/-
  DERIVED. GIVEN WITH THE SEED: THE CARDS: each row of YtbpjdphflkncjaaGreatDoorRows.lean that lists a variable, with what it lists TIED to the program's text (the seventh form; the later family's looks); each row that meets fmt, with fmt's text TOLD by the authors' own Lean function (tested against real Go, not proved from fmt's source: count such statements apart). THE CARD IS WHAT COUNTS. Prove the row's statement (the work); the ties are given (YtbpjdphflkncjaaGreatDoorTie.lean); close each card by the builder's one call (the guide's Derived/Test/ToyasCard.lean, 'card_holds'). Laid BY PROGRAM, IN A SANDBOX (cutbox-door.mjs). By AI agents, Wed Nov 11 2026. No macro, syntax, notation, axiom, sorry.
-/
import Derived.Test.YtbpjdphflkncjaaGreatDoorRows
import GoSem.ClaimSeven
namespace Go.Proofs.YtbpjdphflkncjaaGreatDoor
namespace Rows

/-- THE TIED CARD OF 'pollardlaw14.KeepBack'. -/
def keepBackCard : Claim7 := { stood := { row := keepBackRow, standIns := [], harness := (true, "3603073dbce078e343cf5877ebdb4f0a6b3434a4ef2f5dcd7ede1f2f6ec60dc9"), looks := true }, kinds := [], alts := [], laidByText := true, laidKinds := [.data, .data, .pinned], laidTests := true, laidLooks := .later }
def KeepBackCardSaid : Prop := Claim7.holds Tryz.pinned (.plain (OpenSpec.ofChange keepBackSpec)) keepBackCard

/-- THE TIED CARD OF 'pollardlaw14.KeepFalls'. -/
def keepFallsCard : Claim7 := { stood := { row := keepFallsRow, standIns := [], harness := (true, "3603073dbce078e343cf5877ebdb4f0a6b3434a4ef2f5dcd7ede1f2f6ec60dc9"), looks := true }, kinds := [], alts := [], laidByText := true, laidKinds := [.data, .data, .pinned], laidTests := true, laidLooks := .later }
def KeepFallsCardSaid : Prop := Claim7.holds Tryz.pinned (.plain (OpenSpec.ofChange keepFallsSpec)) keepFallsCard

/-- THE TIED CARD OF 'pollardlaw14.KeepSpoilt'. -/
def keepSpoiltCard : Claim7 := { stood := { row := keepSpoiltRow, standIns := [], harness := (true, "3603073dbce078e343cf5877ebdb4f0a6b3434a4ef2f5dcd7ede1f2f6ec60dc9"), looks := true }, kinds := [], alts := [], laidByText := true, laidKinds := [.data, .data, .pinned], laidTests := true, laidLooks := .later }
def KeepSpoiltCardSaid : Prop := Claim7.holds Tryz.pinned (.plain (OpenSpec.ofChange keepSpoiltSpec)) keepSpoiltCard

/-- THE TIED CARD OF 'pollardlaw14.KeepLays'. -/
def keepLaysCard : Claim7 := { stood := { row := keepLaysRow, standIns := [], harness := (true, "3603073dbce078e343cf5877ebdb4f0a6b3434a4ef2f5dcd7ede1f2f6ec60dc9"), looks := true }, kinds := [], alts := [], laidByText := true, laidKinds := [.data, .data, .pinned], laidTests := true, laidLooks := .later }
def KeepLaysCardSaid : Prop := Claim7.holds Tryz.pinned (.plain (OpenSpec.ofChange keepLaysSpec)) keepLaysCard

/-- THE SECOND FORM's CARD OF 'pollardlaw14.KeepBack'. -/
def keepBackUptoCard : Claim7 := { stood := { row := keepBackUptoRow, standIns := [], harness := (true, "3603073dbce078e343cf5877ebdb4f0a6b3434a4ef2f5dcd7ede1f2f6ec60dc9"), looks := true }, kinds := [], alts := [], laidByText := true, laidKinds := [.data, .data, .pinned], laidTests := true, laidLooks := .later }
def KeepBackUptoCardSaid : Prop := Claim7.holds Tryz.pinned (.plain (OpenSpec.upto keepBackSpec)) keepBackUptoCard

/-- THE SECOND FORM's CARD OF 'pollardlaw14.KeepFalls'. -/
def keepFallsUptoCard : Claim7 := { stood := { row := keepFallsUptoRow, standIns := [], harness := (true, "3603073dbce078e343cf5877ebdb4f0a6b3434a4ef2f5dcd7ede1f2f6ec60dc9"), looks := true }, kinds := [], alts := [], laidByText := true, laidKinds := [.data, .data, .pinned], laidTests := true, laidLooks := .later }
def KeepFallsUptoCardSaid : Prop := Claim7.holds Tryz.pinned (.plain (OpenSpec.upto keepFallsSpec)) keepFallsUptoCard

/-- THE SECOND FORM's CARD OF 'pollardlaw14.KeepSpoilt'. -/
def keepSpoiltUptoCard : Claim7 := { stood := { row := keepSpoiltUptoRow, standIns := [], harness := (true, "3603073dbce078e343cf5877ebdb4f0a6b3434a4ef2f5dcd7ede1f2f6ec60dc9"), looks := true }, kinds := [], alts := [], laidByText := true, laidKinds := [.data, .data, .pinned], laidTests := true, laidLooks := .later }
def KeepSpoiltUptoCardSaid : Prop := Claim7.holds Tryz.pinned (.plain (OpenSpec.upto keepSpoiltSpec)) keepSpoiltUptoCard

/-- THE SECOND FORM's CARD OF 'pollardlaw14.KeepLays'. -/
def keepLaysUptoCard : Claim7 := { stood := { row := keepLaysUptoRow, standIns := [], harness := (true, "3603073dbce078e343cf5877ebdb4f0a6b3434a4ef2f5dcd7ede1f2f6ec60dc9"), looks := true }, kinds := [], alts := [], laidByText := true, laidKinds := [.data, .data, .pinned], laidTests := true, laidLooks := .later }
def KeepLaysUptoCardSaid : Prop := Claim7.holds Tryz.pinned (.plain (OpenSpec.upto keepLaysSpec)) keepLaysUptoCard
end Rows
end Go.Proofs.YtbpjdphflkncjaaGreatDoor
