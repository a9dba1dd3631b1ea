/- Refs: the document's bytes of refs: walked. -/
import Derived.Test.YtknmmlfdlfioiaaGreatDoorRfEa
import Derived.Test.YtknmmlfdlfioiaaGreatDoorCbRefh
namespace Go.Proofs.YtknmmlfdlfioiaaGreatDoor.Rf
open Cb Go.RowKit Go.Shelf
end Go.Proofs.YtknmmlfdlfioiaaGreatDoor.Rf
