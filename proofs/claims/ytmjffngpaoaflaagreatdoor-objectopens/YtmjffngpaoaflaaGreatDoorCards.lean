/-
  DERIVED. GIVEN WITH THE SEED: THE CARDS: each row of YtmjffngpaoaflaaGreatDoorRows.lean that lists a variable, with what it lists TIED to the program's text (the seventh form; the later family's looks); each row that meets fmt, with fmt's text TOLD by the authors' own Lean function (tested against real Go, not proved from fmt's source: count such statements apart). THE CARD IS WHAT COUNTS. Prove the row's statement (the work); the ties are given (YtmjffngpaoaflaaGreatDoorTie.lean); close each card by the builder's one call (the guide's Derived/Test/ToyasCard.lean, 'card_holds'). Laid BY PROGRAM, IN A SANDBOX (cutbox-door.mjs). By AI agents, Wed Nov 11 2026. No macro, syntax, notation, axiom, sorry.
-/
import Derived.Test.YtmjffngpaoaflaaGreatDoorRows
import GoSem.ClaimSeven
namespace Go.Proofs.YtmjffngpaoaflaaGreatDoor
namespace Rows

/-- THE TIED CARD OF 'pollardlaw07.ObjectOpens'. -/
def objectOpensCard : Claim7 := { stood := { row := objectOpensRow, standIns := [], harness := (true, "b09a6a702ad7a397daaa509898ac150efb2ebb8660d176afeb7f2cb922869229"), looks := true }, kinds := [], alts := [], laidByText := true, laidKinds := [.data, .data, .data, .data, .data, .sentinel, .sentinel, .pinned], laidTests := true, laidLooks := .later }
def ObjectOpensCardSaid : Prop := Claim7.holds Tryz.pinned (.plain (OpenSpec.ofChange objectOpensSpec)) objectOpensCard

/-- THE TIED CARD OF 'pollardlaw07.ObjectCommits'. -/
def objectCommitsCard : Claim7 := { stood := { row := objectCommitsRow, standIns := [], harness := (true, "b09a6a702ad7a397daaa509898ac150efb2ebb8660d176afeb7f2cb922869229"), looks := true }, kinds := [], alts := [], laidByText := true, laidKinds := [.data, .data, .data, .data, .data, .sentinel, .sentinel, .pinned], laidTests := true, laidLooks := .later }
def ObjectCommitsCardSaid : Prop := Claim7.holds Tryz.pinned (.plain (OpenSpec.ofChange objectCommitsSpec)) objectCommitsCard

/-- THE TIED CARD OF 'pollardlaw07.ObjectReads'. -/
def objectReadsCard : Claim7 := { stood := { row := objectReadsRow, standIns := [], harness := (true, "b09a6a702ad7a397daaa509898ac150efb2ebb8660d176afeb7f2cb922869229"), looks := true }, kinds := [], alts := [], laidByText := true, laidKinds := [.data, .data, .data, .data, .data, .sentinel, .sentinel, .pinned], laidTests := true, laidLooks := .later }
def ObjectReadsCardSaid : Prop := Claim7.holds Tryz.pinned (.plain (OpenSpec.ofChange objectReadsSpec)) objectReadsCard

/-- THE TIED CARD OF 'pollardlaw07.ObjectFinds'. -/
def objectFindsCard : Claim7 := { stood := { row := objectFindsRow, standIns := [], harness := (true, "b09a6a702ad7a397daaa509898ac150efb2ebb8660d176afeb7f2cb922869229"), looks := true }, kinds := [], alts := [], laidByText := true, laidKinds := [.data, .data, .data, .data, .sentinel, .sentinel], laidTests := true, laidLooks := .later }
def ObjectFindsCardSaid : Prop := Claim7.holds Tryz.pinned (.plain (OpenSpec.ofChange objectFindsSpec)) objectFindsCard

/-- THE SECOND FORM's CARD OF 'pollardlaw07.ObjectOpens'. -/
def objectOpensUptoCard : Claim7 := { stood := { row := objectOpensUptoRow, standIns := [], harness := (true, "b09a6a702ad7a397daaa509898ac150efb2ebb8660d176afeb7f2cb922869229"), looks := true }, kinds := [], alts := [], laidByText := true, laidKinds := [.data, .data, .data, .data, .data, .sentinel, .sentinel, .pinned], laidTests := true, laidLooks := .later }
def ObjectOpensUptoCardSaid : Prop := Claim7.holds Tryz.pinned (.plain (OpenSpec.upto objectOpensSpec)) objectOpensUptoCard

/-- THE SECOND FORM's CARD OF 'pollardlaw07.ObjectCommits'. -/
def objectCommitsUptoCard : Claim7 := { stood := { row := objectCommitsUptoRow, standIns := [], harness := (true, "b09a6a702ad7a397daaa509898ac150efb2ebb8660d176afeb7f2cb922869229"), looks := true }, kinds := [], alts := [], laidByText := true, laidKinds := [.data, .data, .data, .data, .data, .sentinel, .sentinel, .pinned], laidTests := true, laidLooks := .later }
def ObjectCommitsUptoCardSaid : Prop := Claim7.holds Tryz.pinned (.plain (OpenSpec.upto objectCommitsSpec)) objectCommitsUptoCard

/-- THE SECOND FORM's CARD OF 'pollardlaw07.ObjectReads'. -/
def objectReadsUptoCard : Claim7 := { stood := { row := objectReadsUptoRow, standIns := [], harness := (true, "b09a6a702ad7a397daaa509898ac150efb2ebb8660d176afeb7f2cb922869229"), looks := true }, kinds := [], alts := [], laidByText := true, laidKinds := [.data, .data, .data, .data, .data, .sentinel, .sentinel, .pinned], laidTests := true, laidLooks := .later }
def ObjectReadsUptoCardSaid : Prop := Claim7.holds Tryz.pinned (.plain (OpenSpec.upto objectReadsSpec)) objectReadsUptoCard

/-- THE SECOND FORM's CARD OF 'pollardlaw07.ObjectFinds'. -/
def objectFindsUptoCard : Claim7 := { stood := { row := objectFindsUptoRow, standIns := [], harness := (true, "b09a6a702ad7a397daaa509898ac150efb2ebb8660d176afeb7f2cb922869229"), looks := true }, kinds := [], alts := [], laidByText := true, laidKinds := [.data, .data, .data, .data, .sentinel, .sentinel], laidTests := true, laidLooks := .later }
def ObjectFindsUptoCardSaid : Prop := Claim7.holds Tryz.pinned (.plain (OpenSpec.upto objectFindsSpec)) objectFindsUptoCard
end Rows
end Go.Proofs.YtmjffngpaoaflaaGreatDoor
