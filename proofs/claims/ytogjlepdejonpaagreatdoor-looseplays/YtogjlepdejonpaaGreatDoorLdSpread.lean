/- Bytes that tell a text are spread to it. -/
import Derived.Test.YtogjlepdejonpaaGreatDoorLdSpq
namespace Go.Proofs.YtogjlepdejonpaaGreatDoor.Ld
open Cb
open Go.RowKit
end Go.Proofs.YtogjlepdejonpaaGreatDoor.Ld
