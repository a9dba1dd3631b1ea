/- Refs: Get, in the program and in the document. -/
import Derived.Test.YtknmmlfdlfioiaaGreatDoorRfRb
namespace Go.Proofs.YtknmmlfdlfioiaaGreatDoor.Rf
open Cb Go.RowKit
/-- Refs as a value. -/
def refV (hd : ByteArray) (v : Value) : Value := .agg #[.string hd, v]
end Go.Proofs.YtknmmlfdlfioiaaGreatDoor.Rf
