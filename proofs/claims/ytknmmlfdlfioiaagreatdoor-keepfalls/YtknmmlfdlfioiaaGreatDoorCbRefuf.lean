/- The document's reading of a frame, walked. -/
import Derived.Test.YtknmmlfdlfioiaaGreatDoorCbUnframew
namespace Go.Proofs.YtknmmlfdlfioiaaGreatDoor.Cb
open Go.RowKit
end Go.Proofs.YtknmmlfdlfioiaaGreatDoor.Cb
