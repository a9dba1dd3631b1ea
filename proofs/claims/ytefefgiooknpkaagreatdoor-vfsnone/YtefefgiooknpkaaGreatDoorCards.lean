/-
  DERIVED. GIVEN WITH THE SEED: THE CARDS: each row of YtefefgiooknpkaaGreatDoorRows.lean that lists a variable, with what it lists TIED to the program's text (the seventh form; the later family's looks); each row that meets fmt, with fmt's text TOLD by the authors' own Lean function (tested against real Go, not proved from fmt's source: count such statements apart). THE CARD IS WHAT COUNTS. Prove the row's statement (the work); the ties are given (YtefefgiooknpkaaGreatDoorTie.lean); close each card by the builder's one call (the guide's Derived/Test/ToyasCard.lean, 'card_holds'). Laid BY PROGRAM, IN A SANDBOX (cutbox-door.mjs). By AI agents, Wed Nov 11 2026. No macro, syntax, notation, axiom, sorry.
-/
import Derived.Test.YtefefgiooknpkaaGreatDoorRows
import GoSem.ClaimSeven
namespace Go.Proofs.YtefefgiooknpkaaGreatDoor
namespace Rows

/-- THE TIED CARD OF 'pollardlaw03.VfsActs'. -/
def vfsActsCard : Claim7 := { stood := { row := vfsActsRow, standIns := [], harness := (true, "2183336a4a1596c4797ad3acda787953cbd5dd634ed9e3046909000152de1582"), looks := true }, kinds := [], alts := [], laidByText := true, laidKinds := [.data, .pinned], laidTests := true, laidLooks := .later }
def VfsActsCardSaid : Prop := Claim7.holds Tryz.pinned (.plain (OpenSpec.ofChange vfsActsSpec)) vfsActsCard

/-- THE TIED CARD OF 'pollardlaw03.VfsSure'. -/
def vfsSureCard : Claim7 := { stood := { row := vfsSureRow, standIns := [], harness := (true, "2183336a4a1596c4797ad3acda787953cbd5dd634ed9e3046909000152de1582"), looks := true }, kinds := [], alts := [], laidByText := true, laidKinds := [.data, .pinned], laidTests := true, laidLooks := .later }
def VfsSureCardSaid : Prop := Claim7.holds Tryz.pinned (.plain (OpenSpec.ofChange vfsSureSpec)) vfsSureCard

/-- THE TIED CARD OF 'pollardlaw03.VfsRoom'. -/
def vfsRoomCard : Claim7 := { stood := { row := vfsRoomRow, standIns := [], harness := (true, "2183336a4a1596c4797ad3acda787953cbd5dd634ed9e3046909000152de1582"), looks := true }, kinds := [], alts := [], laidByText := true, laidKinds := [.data, .pinned], laidTests := true, laidLooks := .later }
def VfsRoomCardSaid : Prop := Claim7.holds Tryz.pinned (.plain (OpenSpec.ofChange vfsRoomSpec)) vfsRoomCard

/-- THE TIED CARD OF 'pollardlaw03.VfsNone'. -/
def vfsNoneCard : Claim7 := { stood := { row := vfsNoneRow, standIns := [], harness := (true, "2183336a4a1596c4797ad3acda787953cbd5dd634ed9e3046909000152de1582"), looks := true }, kinds := [], alts := [], laidByText := true, laidKinds := [.data, .pinned], laidTests := true, laidLooks := .later }
def VfsNoneCardSaid : Prop := Claim7.holds Tryz.pinned (.plain (OpenSpec.ofChange vfsNoneSpec)) vfsNoneCard

/-- THE SECOND FORM's CARD OF 'pollardlaw03.VfsActs'. -/
def vfsActsUptoCard : Claim7 := { stood := { row := vfsActsUptoRow, standIns := [], harness := (true, "2183336a4a1596c4797ad3acda787953cbd5dd634ed9e3046909000152de1582"), looks := true }, kinds := [], alts := [], laidByText := true, laidKinds := [.data, .pinned], laidTests := true, laidLooks := .later }
def VfsActsUptoCardSaid : Prop := Claim7.holds Tryz.pinned (.plain (OpenSpec.upto vfsActsSpec)) vfsActsUptoCard

/-- THE SECOND FORM's CARD OF 'pollardlaw03.VfsSure'. -/
def vfsSureUptoCard : Claim7 := { stood := { row := vfsSureUptoRow, standIns := [], harness := (true, "2183336a4a1596c4797ad3acda787953cbd5dd634ed9e3046909000152de1582"), looks := true }, kinds := [], alts := [], laidByText := true, laidKinds := [.data, .pinned], laidTests := true, laidLooks := .later }
def VfsSureUptoCardSaid : Prop := Claim7.holds Tryz.pinned (.plain (OpenSpec.upto vfsSureSpec)) vfsSureUptoCard

/-- THE SECOND FORM's CARD OF 'pollardlaw03.VfsRoom'. -/
def vfsRoomUptoCard : Claim7 := { stood := { row := vfsRoomUptoRow, standIns := [], harness := (true, "2183336a4a1596c4797ad3acda787953cbd5dd634ed9e3046909000152de1582"), looks := true }, kinds := [], alts := [], laidByText := true, laidKinds := [.data, .pinned], laidTests := true, laidLooks := .later }
def VfsRoomUptoCardSaid : Prop := Claim7.holds Tryz.pinned (.plain (OpenSpec.upto vfsRoomSpec)) vfsRoomUptoCard

/-- THE SECOND FORM's CARD OF 'pollardlaw03.VfsNone'. -/
def vfsNoneUptoCard : Claim7 := { stood := { row := vfsNoneUptoRow, standIns := [], harness := (true, "2183336a4a1596c4797ad3acda787953cbd5dd634ed9e3046909000152de1582"), looks := true }, kinds := [], alts := [], laidByText := true, laidKinds := [.data, .pinned], laidTests := true, laidLooks := .later }
def VfsNoneUptoCardSaid : Prop := Claim7.holds Tryz.pinned (.plain (OpenSpec.upto vfsNoneSpec)) vfsNoneUptoCard
end Rows
end Go.Proofs.YtefefgiooknpkaaGreatDoor
