/-
  DERIVED. GIVEN WITH THE SEED: THE CARDS: each row of YtdbbgpcjclmelaaGreatDoorRows.lean that lists a variable, with what it lists TIED to the program's text (the seventh form; the later family's looks); each row that meets fmt, with fmt's text TOLD by the authors' own Lean function (tested against real Go, not proved from fmt's source: count such statements apart). THE CARD IS WHAT COUNTS. Prove the row's statement (the work); the ties are given (YtdbbgpcjclmelaaGreatDoorTie.lean); close each card by the builder's one call (the guide's Derived/Test/ToyasCard.lean, 'card_holds'). Laid BY PROGRAM, IN A SANDBOX (cutbox-door.mjs). By AI agents, Wed Nov 11 2026. No macro, syntax, notation, axiom, sorry.
-/
import Derived.Test.YtdbbgpcjclmelaaGreatDoorRows
import GoSem.ClaimSeven
namespace Go.Proofs.YtdbbgpcjclmelaaGreatDoor
namespace Rows

/-- THE TIED CARD OF 'pollardlaw12.ChainItems'. -/
def chainItemsCard : Claim7 := { stood := { row := chainItemsRow, standIns := [], harness := (true, "61ed2b895f3964bc7be419bd6ce645c4fa31e4101d68c0d79d40ed830eb5571c"), looks := true }, kinds := [], alts := [], laidByText := true, laidKinds := [.data, .data, .data, .data, .data, .sentinel, .sentinel, .pinned], laidTests := true, laidLooks := .later }
def ChainItemsCardSaid : Prop := Claim7.holds Tryz.pinned (.plain (OpenSpec.ofChange chainItemsSpec)) chainItemsCard

/-- THE TIED CARD OF 'pollardlaw12.ChainBack'. -/
def chainBackCard : Claim7 := { stood := { row := chainBackRow, standIns := [], harness := (true, "61ed2b895f3964bc7be419bd6ce645c4fa31e4101d68c0d79d40ed830eb5571c"), looks := true }, kinds := [], alts := [], laidByText := true, laidKinds := [.data, .data, .data, .data, .data, .sentinel, .sentinel, .pinned], laidTests := true, laidLooks := .later }
def ChainBackCardSaid : Prop := Claim7.holds Tryz.pinned (.plain (OpenSpec.ofChange chainBackSpec)) chainBackCard

/-- THE TIED CARD OF 'pollardlaw12.ChainDeep'. -/
def chainDeepCard : Claim7 := { stood := { row := chainDeepRow, standIns := [], harness := (true, "61ed2b895f3964bc7be419bd6ce645c4fa31e4101d68c0d79d40ed830eb5571c"), looks := true }, kinds := [], alts := [], laidByText := true, laidKinds := [.data, .data, .data, .data, .data, .sentinel, .sentinel, .pinned], laidTests := true, laidLooks := .later }
def ChainDeepCardSaid : Prop := Claim7.holds Tryz.pinned (.plain (OpenSpec.ofChange chainDeepSpec)) chainDeepCard

/-- THE SECOND FORM's CARD OF 'pollardlaw12.ChainItems'. -/
def chainItemsUptoCard : Claim7 := { stood := { row := chainItemsUptoRow, standIns := [], harness := (true, "61ed2b895f3964bc7be419bd6ce645c4fa31e4101d68c0d79d40ed830eb5571c"), looks := true }, kinds := [], alts := [], laidByText := true, laidKinds := [.data, .data, .data, .data, .data, .sentinel, .sentinel, .pinned], laidTests := true, laidLooks := .later }
def ChainItemsUptoCardSaid : Prop := Claim7.holds Tryz.pinned (.plain (OpenSpec.upto chainItemsSpec)) chainItemsUptoCard

/-- THE SECOND FORM's CARD OF 'pollardlaw12.ChainBack'. -/
def chainBackUptoCard : Claim7 := { stood := { row := chainBackUptoRow, standIns := [], harness := (true, "61ed2b895f3964bc7be419bd6ce645c4fa31e4101d68c0d79d40ed830eb5571c"), looks := true }, kinds := [], alts := [], laidByText := true, laidKinds := [.data, .data, .data, .data, .data, .sentinel, .sentinel, .pinned], laidTests := true, laidLooks := .later }
def ChainBackUptoCardSaid : Prop := Claim7.holds Tryz.pinned (.plain (OpenSpec.upto chainBackSpec)) chainBackUptoCard

/-- THE SECOND FORM's CARD OF 'pollardlaw12.ChainDeep'. -/
def chainDeepUptoCard : Claim7 := { stood := { row := chainDeepUptoRow, standIns := [], harness := (true, "61ed2b895f3964bc7be419bd6ce645c4fa31e4101d68c0d79d40ed830eb5571c"), looks := true }, kinds := [], alts := [], laidByText := true, laidKinds := [.data, .data, .data, .data, .data, .sentinel, .sentinel, .pinned], laidTests := true, laidLooks := .later }
def ChainDeepUptoCardSaid : Prop := Claim7.holds Tryz.pinned (.plain (OpenSpec.upto chainDeepSpec)) chainDeepUptoCard
end Rows
end Go.Proofs.YtdbbgpcjclmelaaGreatDoor
