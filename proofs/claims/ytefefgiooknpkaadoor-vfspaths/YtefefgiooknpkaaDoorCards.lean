/-
  DERIVED. GIVEN WITH THE SEED: THE CARDS: each row of YtefefgiooknpkaaDoorRows.lean that lists a variable, with what it lists TIED to the program's text (the seventh form; the later family's looks); each row that meets fmt, with fmt's text TOLD by the authors' own Lean function (tested against real Go, not proved from fmt's source: count such statements apart). THE CARD IS WHAT COUNTS. Prove the row's statement (the work); the ties are given (YtefefgiooknpkaaDoorTie.lean); close each card by the builder's one call (the guide's Derived/Test/ToyasCard.lean, 'card_holds'). Laid BY PROGRAM, IN A SANDBOX (cutbox-door.mjs). By AI agents, Wed Nov 11 2026. No macro, syntax, notation, axiom, sorry.
-/
import Derived.Test.YtefefgiooknpkaaDoorRows
import GoSem.ClaimSeven
namespace Go.Proofs.YtefefgiooknpkaaDoor
namespace Rows

/-- THE TIED CARD OF 'pollardlaw03.VfsPaths'. -/
def vfsPathsCard : Claim7 := { stood := { row := vfsPathsRow, standIns := [], harness := (true, "9f9ec6c44e8e159e14f190f73eaef90caa8519e4c33a82018d26cc30a5693780"), looks := true }, kinds := [], alts := [], laidByText := true, laidKinds := [.data, .pinned], laidTests := true, laidLooks := .later }
def VfsPathsCardSaid : Prop := Claim7.holds Tryd.pinned (.plain (OpenSpec.ofChange vfsPathsSpec)) vfsPathsCard

/-- THE SECOND FORM's CARD OF 'pollardlaw03.VfsPaths'. -/
def vfsPathsUptoCard : Claim7 := { stood := { row := vfsPathsUptoRow, standIns := [], harness := (true, "9f9ec6c44e8e159e14f190f73eaef90caa8519e4c33a82018d26cc30a5693780"), looks := true }, kinds := [], alts := [], laidByText := true, laidKinds := [.data, .pinned], laidTests := true, laidLooks := .later }
def VfsPathsUptoCardSaid : Prop := Claim7.holds Tryd.pinned (.plain (OpenSpec.upto vfsPathsSpec)) vfsPathsUptoCard
end Rows
end Go.Proofs.YtefefgiooknpkaaDoor
