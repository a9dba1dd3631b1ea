/-
  DERIVED. GIVEN WITH THE SEED: THE CARDS: each row of YtnldocaeaplghaaDoorRows.lean that lists a variable, with what it lists TIED to the program's text (the seventh form; the later family's looks); each row that meets fmt, with fmt's text TOLD by the authors' own Lean function (tested against real Go, not proved from fmt's source: count such statements apart). THE CARD IS WHAT COUNTS. Prove the row's statement (the work); the ties are given (YtnldocaeaplghaaDoorTie.lean); close each card by the builder's one call (the guide's Derived/Test/ToyasCard.lean, 'card_holds'). Laid BY PROGRAM, IN A SANDBOX (cutbox-door.mjs). By AI agents, Wed Nov 11 2026. No macro, syntax, notation, axiom, sorry.
-/
import Derived.Test.YtnldocaeaplghaaDoorRows
import GoSem.ClaimSeven
namespace Go.Proofs.YtnldocaeaplghaaDoor
namespace Rows

/-- THE TIED CARD OF 'pollardlaw02.CodeDec'. -/
def codeDecCard : Claim7 := { stood := { row := codeDecRow, standIns := [], harness := (true, "347bd7e1cb7bed4061bd8797244bb42901566b94c887aa30f5ba45765b16dba3"), looks := true }, kinds := [], alts := [], laidByText := true, laidKinds := [.data, .data, .data, .sentinel, .sentinel], laidTests := true, laidLooks := .later }
def CodeDecCardSaid : Prop := Claim7.holds Tryd.pinned (.plain (OpenSpec.ofChange codeDecSpec)) codeDecCard

/-- THE TIED CARD OF 'pollardlaw02.CodeUndec'. -/
def codeUndecCard : Claim7 := { stood := { row := codeUndecRow, standIns := [], harness := (true, "347bd7e1cb7bed4061bd8797244bb42901566b94c887aa30f5ba45765b16dba3"), looks := true }, kinds := [], alts := [], laidByText := true, laidKinds := [.data, .data, .data, .sentinel, .sentinel], laidTests := true, laidLooks := .later }
def CodeUndecCardSaid : Prop := Claim7.holds Tryd.pinned (.plain (OpenSpec.ofChange codeUndecSpec)) codeUndecCard

/-- THE SECOND FORM's CARD OF 'pollardlaw02.CodeDec'. -/
def codeDecUptoCard : Claim7 := { stood := { row := codeDecUptoRow, standIns := [], harness := (true, "347bd7e1cb7bed4061bd8797244bb42901566b94c887aa30f5ba45765b16dba3"), looks := true }, kinds := [], alts := [], laidByText := true, laidKinds := [.data, .data, .data, .sentinel, .sentinel], laidTests := true, laidLooks := .later }
def CodeDecUptoCardSaid : Prop := Claim7.holds Tryd.pinned (.plain (OpenSpec.upto codeDecSpec)) codeDecUptoCard

/-- THE SECOND FORM's CARD OF 'pollardlaw02.CodeUndec'. -/
def codeUndecUptoCard : Claim7 := { stood := { row := codeUndecUptoRow, standIns := [], harness := (true, "347bd7e1cb7bed4061bd8797244bb42901566b94c887aa30f5ba45765b16dba3"), looks := true }, kinds := [], alts := [], laidByText := true, laidKinds := [.data, .data, .data, .sentinel, .sentinel], laidTests := true, laidLooks := .later }
def CodeUndecUptoCardSaid : Prop := Claim7.holds Tryd.pinned (.plain (OpenSpec.upto codeUndecSpec)) codeUndecUptoCard
end Rows
end Go.Proofs.YtnldocaeaplghaaDoor
