/-
  DERIVED. GIVEN WITH THE SEED: THE CARDS: each row of YtgbmfhbodfmpbaaDoorRows.lean that lists a variable, with what it lists TIED to the program's text (the seventh form; the later family's looks); each row that meets fmt, with fmt's text TOLD by the authors' own Lean function (tested against real Go, not proved from fmt's source: count such statements apart). THE CARD IS WHAT COUNTS. Prove the row's statement (the work); the ties are given (YtgbmfhbodfmpbaaDoorTie.lean); close each card by the builder's one call (the guide's Derived/Test/ToyasCard.lean, 'card_holds'). Laid BY PROGRAM, IN A SANDBOX (cutbox-door.mjs). By AI agents, Wed Nov 11 2026. No macro, syntax, notation, axiom, sorry.
-/
import Derived.Test.YtgbmfhbodfmpbaaDoorRows
import GoSem.ClaimSeven
namespace Go.Proofs.YtgbmfhbodfmpbaaDoor
namespace Rows

/-- THE TIED CARD OF 'pollardlaw05.LabelSplits'. -/
def labelSplitsCard : Claim7 := { stood := { row := labelSplitsRow, standIns := [], harness := (true, "d7d3a626364933ce4c2a95ed3e32c8a21579990e096f5563e9d4ca042b766980"), looks := false }, kinds := [], alts := [], laidByText := true, laidKinds := [.data, .pinned], laidTests := true, laidLooks := .later }
def LabelSplitsCardSaid : Prop := Claim7.holds Tryd.pinned (.plain (OpenSpec.ofChange labelSplitsSpec)) labelSplitsCard

/-- THE TIED CARD OF 'pollardlaw05.LabelDeep'. -/
def labelDeepCard : Claim7 := { stood := { row := labelDeepRow, standIns := [], harness := (true, "d7d3a626364933ce4c2a95ed3e32c8a21579990e096f5563e9d4ca042b766980"), looks := false }, kinds := [], alts := [], laidByText := true, laidKinds := [.data, .pinned], laidTests := true, laidLooks := .later }
def LabelDeepCardSaid : Prop := Claim7.holds Tryd.pinned (.plain (OpenSpec.ofChange labelDeepSpec)) labelDeepCard

/-- THE SECOND FORM's CARD OF 'pollardlaw05.LabelSplits'. -/
def labelSplitsUptoCard : Claim7 := { stood := { row := labelSplitsUptoRow, standIns := [], harness := (true, "d7d3a626364933ce4c2a95ed3e32c8a21579990e096f5563e9d4ca042b766980"), looks := false }, kinds := [], alts := [], laidByText := true, laidKinds := [.data, .pinned], laidTests := true, laidLooks := .later }
def LabelSplitsUptoCardSaid : Prop := Claim7.holds Tryd.pinned (.plain (OpenSpec.upto labelSplitsSpec)) labelSplitsUptoCard

/-- THE SECOND FORM's CARD OF 'pollardlaw05.LabelDeep'. -/
def labelDeepUptoCard : Claim7 := { stood := { row := labelDeepUptoRow, standIns := [], harness := (true, "d7d3a626364933ce4c2a95ed3e32c8a21579990e096f5563e9d4ca042b766980"), looks := false }, kinds := [], alts := [], laidByText := true, laidKinds := [.data, .pinned], laidTests := true, laidLooks := .later }
def LabelDeepUptoCardSaid : Prop := Claim7.holds Tryd.pinned (.plain (OpenSpec.upto labelDeepSpec)) labelDeepUptoCard
end Rows
end Go.Proofs.YtgbmfhbodfmpbaaDoor
