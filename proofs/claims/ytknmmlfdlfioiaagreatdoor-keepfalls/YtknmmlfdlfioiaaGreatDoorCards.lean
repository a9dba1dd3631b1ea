/-
  DERIVED. GIVEN WITH THE SEED: THE CARDS: each row of YtknmmlfdlfioiaaGreatDoorRows.lean that lists a variable, with what it lists TIED to the program's text (the seventh form; the later family's looks); each row that meets fmt, with fmt's text TOLD by the authors' own Lean function (tested against real Go, not proved from fmt's source: count such statements apart). THE CARD IS WHAT COUNTS. Prove the row's statement (the work); the ties are given (YtknmmlfdlfioiaaGreatDoorTie.lean); close each card by the builder's one call (the guide's Derived/Test/ToyasCard.lean, 'card_holds'). Laid BY PROGRAM, IN A SANDBOX (cutbox-door.mjs). By AI agents, Wed Nov 11 2026. No macro, syntax, notation, axiom, sorry.
-/
import Derived.Test.YtknmmlfdlfioiaaGreatDoorRows
import GoSem.ClaimSeven
namespace Go.Proofs.YtknmmlfdlfioiaaGreatDoor
namespace Rows

/-- THE TIED CARD OF 'pollardlaw14.KeepFalls'. -/
def keepFallsCard : Claim7 := { stood := { row := keepFallsRow, standIns := [], harness := (true, "b30fea3b33d41b4cd426c0419030b0438194f5e335ffe986d1ebc3becada9a68"), looks := true }, kinds := [], alts := [], laidByText := true, laidKinds := [.data, .data, .pinned], laidTests := true, laidLooks := .later }
def KeepFallsCardSaid : Prop := Claim7.holds Tryz.pinned (.plain (OpenSpec.ofChange keepFallsSpec)) keepFallsCard

/-- THE SECOND FORM's CARD OF 'pollardlaw14.KeepFalls'. -/
def keepFallsUptoCard : Claim7 := { stood := { row := keepFallsUptoRow, standIns := [], harness := (true, "b30fea3b33d41b4cd426c0419030b0438194f5e335ffe986d1ebc3becada9a68"), looks := true }, kinds := [], alts := [], laidByText := true, laidKinds := [.data, .data, .pinned], laidTests := true, laidLooks := .later }
def KeepFallsUptoCardSaid : Prop := Claim7.holds Tryz.pinned (.plain (OpenSpec.upto keepFallsSpec)) keepFallsUptoCard
end Rows
end Go.Proofs.YtknmmlfdlfioiaaGreatDoor
