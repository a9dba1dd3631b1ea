/-
  DERIVED. GIVEN WITH THE SEED: THE CARDS: each row of YtmjffngpaoaflaaDoorRows.lean that lists a variable, with what it lists TIED to the program's text (the seventh form; the later family's looks); each row that meets fmt, with fmt's text TOLD by the authors' own Lean function (tested against real Go, not proved from fmt's source: count such statements apart). THE CARD IS WHAT COUNTS. Prove the row's statement (the work); the ties are given (YtmjffngpaoaflaaDoorTie.lean); close each card by the builder's one call (the guide's Derived/Test/ToyasCard.lean, 'card_holds'). Laid BY PROGRAM, IN A SANDBOX (cutbox-door.mjs). By AI agents, Wed Nov 11 2026. No macro, syntax, notation, axiom, sorry.
-/
import Derived.Test.YtmjffngpaoaflaaDoorRows
import GoSem.ClaimSeven
namespace Go.Proofs.YtmjffngpaoaflaaDoor
namespace Rows

/-- THE TIED CARD OF 'pollardlaw07.ObjectRaws'. -/
def objectRawsCard : Claim7 := { stood := { row := objectRawsRow, standIns := [], harness := (true, "c78ebf846df513e800a664fa40645ef884836e36716661d69932dfd1b64cd907"), looks := true }, kinds := [], alts := [], laidByText := true, laidKinds := [.data, .data, .data, .data, .sentinel, .sentinel], laidTests := true, laidLooks := .later }
def ObjectRawsCardSaid : Prop := Claim7.holds Tryd.pinned (.plain (OpenSpec.ofChange objectRawsSpec)) objectRawsCard

/-- THE TIED CARD OF 'pollardlaw07.ObjectTags'. -/
def objectTagsCard : Claim7 := { stood := { row := objectTagsRow, standIns := [], harness := (true, "c78ebf846df513e800a664fa40645ef884836e36716661d69932dfd1b64cd907"), looks := true }, kinds := [], alts := [], laidByText := true, laidKinds := [.data, .data, .data, .data, .sentinel, .sentinel], laidTests := true, laidLooks := .later }
def ObjectTagsCardSaid : Prop := Claim7.holds Tryd.pinned (.plain (OpenSpec.ofChange objectTagsSpec)) objectTagsCard

/-- THE SECOND FORM's CARD OF 'pollardlaw07.ObjectRaws'. -/
def objectRawsUptoCard : Claim7 := { stood := { row := objectRawsUptoRow, standIns := [], harness := (true, "c78ebf846df513e800a664fa40645ef884836e36716661d69932dfd1b64cd907"), looks := true }, kinds := [], alts := [], laidByText := true, laidKinds := [.data, .data, .data, .data, .sentinel, .sentinel], laidTests := true, laidLooks := .later }
def ObjectRawsUptoCardSaid : Prop := Claim7.holds Tryd.pinned (.plain (OpenSpec.upto objectRawsSpec)) objectRawsUptoCard

/-- THE SECOND FORM's CARD OF 'pollardlaw07.ObjectTags'. -/
def objectTagsUptoCard : Claim7 := { stood := { row := objectTagsUptoRow, standIns := [], harness := (true, "c78ebf846df513e800a664fa40645ef884836e36716661d69932dfd1b64cd907"), looks := true }, kinds := [], alts := [], laidByText := true, laidKinds := [.data, .data, .data, .data, .sentinel, .sentinel], laidTests := true, laidLooks := .later }
def ObjectTagsUptoCardSaid : Prop := Claim7.holds Tryd.pinned (.plain (OpenSpec.upto objectTagsSpec)) objectTagsUptoCard
end Rows
end Go.Proofs.YtmjffngpaoaflaaDoor
