/-
  DERIVED. GIVEN WITH THE SEED: THE CARDS: each row of YtkgnhojnknejmabDoorRows.lean that lists a variable, with what it lists TIED to the program's text (the seventh form; the later family's looks); each row that meets fmt, with fmt's text TOLD by the authors' own Lean function (tested against real Go, not proved from fmt's source: count such statements apart). THE CARD IS WHAT COUNTS. Prove the row's statement (the work); the ties are given (YtkgnhojnknejmabDoorTie.lean); close each card by the builder's one call (the guide's Derived/Test/ToyasCard.lean, 'card_holds'). Laid BY PROGRAM, IN A SANDBOX (cutbox-door.mjs). By AI agents, Wed Nov 11 2026. No macro, syntax, notation, axiom, sorry.
-/
import Derived.Test.YtkgnhojnknejmabDoorRows
import GoSem.ClaimSeven
namespace Go.Proofs.YtkgnhojnknejmabDoor
namespace Rows

/-- THE TIED CARD OF 'pollardlaw07.ObjectUnlike'. -/
def objectUnlikeCard : Claim7 := { stood := { row := objectUnlikeRow, standIns := [], harness := (true, "5b5d82254721e166f865769845d40509953b898470e83c9067004c7f5b20f3a4"), looks := true }, kinds := [], alts := [], laidByText := true, laidKinds := [.data, .data, .data, .data, .sentinel, .sentinel], laidTests := true, laidLooks := .later }
def ObjectUnlikeCardSaid : Prop := Claim7.holds Tryd.pinned (.plain (OpenSpec.ofChange objectUnlikeSpec)) objectUnlikeCard

/-- THE TIED CARD OF 'pollardlaw07.ObjectMost'. -/
def objectMostCard : Claim7 := { stood := { row := objectMostRow, standIns := [], harness := (true, "5b5d82254721e166f865769845d40509953b898470e83c9067004c7f5b20f3a4"), looks := true }, kinds := [], alts := [], laidByText := true, laidKinds := [.data, .data, .data, .data, .sentinel, .sentinel], laidTests := true, laidLooks := .later }
def ObjectMostCardSaid : Prop := Claim7.holds Tryd.pinned (.plain (OpenSpec.ofChange objectMostSpec)) objectMostCard

/-- THE SECOND FORM's CARD OF 'pollardlaw07.ObjectUnlike'. -/
def objectUnlikeUptoCard : Claim7 := { stood := { row := objectUnlikeUptoRow, standIns := [], harness := (true, "5b5d82254721e166f865769845d40509953b898470e83c9067004c7f5b20f3a4"), looks := true }, kinds := [], alts := [], laidByText := true, laidKinds := [.data, .data, .data, .data, .sentinel, .sentinel], laidTests := true, laidLooks := .later }
def ObjectUnlikeUptoCardSaid : Prop := Claim7.holds Tryd.pinned (.plain (OpenSpec.upto objectUnlikeSpec)) objectUnlikeUptoCard

/-- THE SECOND FORM's CARD OF 'pollardlaw07.ObjectMost'. -/
def objectMostUptoCard : Claim7 := { stood := { row := objectMostUptoRow, standIns := [], harness := (true, "5b5d82254721e166f865769845d40509953b898470e83c9067004c7f5b20f3a4"), looks := true }, kinds := [], alts := [], laidByText := true, laidKinds := [.data, .data, .data, .data, .sentinel, .sentinel], laidTests := true, laidLooks := .later }
def ObjectMostUptoCardSaid : Prop := Claim7.holds Tryd.pinned (.plain (OpenSpec.upto objectMostSpec)) objectMostUptoCard
end Rows
end Go.Proofs.YtkgnhojnknejmabDoor
