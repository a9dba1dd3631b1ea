/-
  DERIVED. GIVEN WITH THE SEED: THE CARDS: each row of YtjjaalmmibfcoaaDoorRows.lean that lists a variable, with what it lists TIED to the program's text (the seventh form; the later family's looks); each row that meets fmt, with fmt's text TOLD by the authors' own Lean function (tested against real Go, not proved from fmt's source: count such statements apart). THE CARD IS WHAT COUNTS. Prove the row's statement (the work); the ties are given (YtjjaalmmibfcoaaDoorTie.lean); close each card by the builder's one call (the guide's Derived/Test/ToyasCard.lean, 'card_holds'). Laid BY PROGRAM, IN A SANDBOX (cutbox-door.mjs). By AI agents, Wed Nov 11 2026. No macro, syntax, notation, axiom, sorry.
-/
import Derived.Test.YtjjaalmmibfcoaaDoorRows
import GoSem.ClaimSeven
namespace Go.Proofs.YtjjaalmmibfcoaaDoor
namespace Rows

/-- THE TIED CARD OF 'pollardlaw01.SumOf'. -/
def sumOfCard : Claim7 := { stood := { row := sumOfRow, standIns := [], harness := (true, "8abd10ff6ba2f62f04afc6b2846a8db7f56f278dfc80b956e770eda363515ebd"), looks := false }, kinds := [], alts := [], laidByText := true, laidKinds := [.data], laidTests := true, laidLooks := .later }
def SumOfCardSaid : Prop := Claim7.holds Tryd.pinned (.plain (OpenSpec.ofChange sumOfSpec)) sumOfCard

/-- THE TIED CARD OF 'pollardlaw01.SumPieces'. -/
def sumPiecesCard : Claim7 := { stood := { row := sumPiecesRow, standIns := [], harness := (true, "8abd10ff6ba2f62f04afc6b2846a8db7f56f278dfc80b956e770eda363515ebd"), looks := false }, kinds := [], alts := [], laidByText := true, laidKinds := [.data], laidTests := true, laidLooks := .later }
def SumPiecesCardSaid : Prop := Claim7.holds Tryd.pinned (.plain (OpenSpec.ofChange sumPiecesSpec)) sumPiecesCard

/-- THE TIED CARD OF 'pollardlaw01.SumTwins'. -/
def sumTwinsCard : Claim7 := { stood := { row := sumTwinsRow, standIns := [], harness := (true, "8abd10ff6ba2f62f04afc6b2846a8db7f56f278dfc80b956e770eda363515ebd"), looks := false }, kinds := [], alts := [], laidByText := true, laidKinds := [.data], laidTests := true, laidLooks := .later }
def SumTwinsCardSaid : Prop := Claim7.holds Tryd.pinned (.plain (OpenSpec.ofChange sumTwinsSpec)) sumTwinsCard

/-- THE TIED CARD OF 'pollardlaw01.SumNone'. -/
def sumNoneCard : Claim7 := { stood := { row := sumNoneRow, standIns := [], harness := (true, "8abd10ff6ba2f62f04afc6b2846a8db7f56f278dfc80b956e770eda363515ebd"), looks := false }, kinds := [], alts := [], laidByText := true, laidKinds := [.data], laidTests := true, laidLooks := .later }
def SumNoneCardSaid : Prop := Claim7.holds Tryd.pinned (.plain (OpenSpec.ofChange sumNoneSpec)) sumNoneCard

/-- THE SECOND FORM's CARD OF 'pollardlaw01.SumOf'. -/
def sumOfUptoCard : Claim7 := { stood := { row := sumOfUptoRow, standIns := [], harness := (true, "8abd10ff6ba2f62f04afc6b2846a8db7f56f278dfc80b956e770eda363515ebd"), looks := false }, kinds := [], alts := [], laidByText := true, laidKinds := [.data], laidTests := true, laidLooks := .later }
def SumOfUptoCardSaid : Prop := Claim7.holds Tryd.pinned (.plain (OpenSpec.upto sumOfSpec)) sumOfUptoCard

/-- THE SECOND FORM's CARD OF 'pollardlaw01.SumPieces'. -/
def sumPiecesUptoCard : Claim7 := { stood := { row := sumPiecesUptoRow, standIns := [], harness := (true, "8abd10ff6ba2f62f04afc6b2846a8db7f56f278dfc80b956e770eda363515ebd"), looks := false }, kinds := [], alts := [], laidByText := true, laidKinds := [.data], laidTests := true, laidLooks := .later }
def SumPiecesUptoCardSaid : Prop := Claim7.holds Tryd.pinned (.plain (OpenSpec.upto sumPiecesSpec)) sumPiecesUptoCard

/-- THE SECOND FORM's CARD OF 'pollardlaw01.SumTwins'. -/
def sumTwinsUptoCard : Claim7 := { stood := { row := sumTwinsUptoRow, standIns := [], harness := (true, "8abd10ff6ba2f62f04afc6b2846a8db7f56f278dfc80b956e770eda363515ebd"), looks := false }, kinds := [], alts := [], laidByText := true, laidKinds := [.data], laidTests := true, laidLooks := .later }
def SumTwinsUptoCardSaid : Prop := Claim7.holds Tryd.pinned (.plain (OpenSpec.upto sumTwinsSpec)) sumTwinsUptoCard

/-- THE SECOND FORM's CARD OF 'pollardlaw01.SumNone'. -/
def sumNoneUptoCard : Claim7 := { stood := { row := sumNoneUptoRow, standIns := [], harness := (true, "8abd10ff6ba2f62f04afc6b2846a8db7f56f278dfc80b956e770eda363515ebd"), looks := false }, kinds := [], alts := [], laidByText := true, laidKinds := [.data], laidTests := true, laidLooks := .later }
def SumNoneUptoCardSaid : Prop := Claim7.holds Tryd.pinned (.plain (OpenSpec.upto sumNoneSpec)) sumNoneUptoCard
end Rows
end Go.Proofs.YtjjaalmmibfcoaaDoor
