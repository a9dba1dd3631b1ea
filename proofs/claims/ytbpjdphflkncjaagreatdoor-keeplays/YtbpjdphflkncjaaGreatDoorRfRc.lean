/- Refs: Get, in the program and in the document. -/
import Derived.Test.YtbpjdphflkncjaaGreatDoorRfRb
namespace Go.Proofs.YtbpjdphflkncjaaGreatDoor.Rf
open Cb Go.RowKit
/-- Refs as a value. -/
def refV (hd : ByteArray) (v : Value) : Value := .agg #[.string hd, v]
end Go.Proofs.YtbpjdphflkncjaaGreatDoor.Rf
