/- The document's id, walked. -/
import Derived.Test.YtdbbgpcjclmelaaGreatDoorOo
import Derived.Test.YtdbbgpcjclmelaaGreatDoorSaAll
namespace Go.Proofs.YtdbbgpcjclmelaaGreatDoor
namespace Ob
open Go.RowKit Go.Shelf
set_option maxHeartbeats 400000 in
theorem refid_any (s : ByteArray) (w : World) (hs : s.size < 100000000) :
    Calls Tryz.prog 20 #[.string s] w fun e w' => e = .returned (.string (Sa.Sha.sha s.data.toList)) ∧ Below w.heap.size w w' := by
  have H := hideIt (Sa.ref_any s w hs)
  go_enter Tryz.func20, Tryz.ntmps20
  go_wp2_with (first | (go_at_call 36; refine H.out.mono ?_; rintro e w1 ⟨rfl, hb1⟩))
  go_ret
  exact ⟨rfl, hb1⟩
end Ob
end Go.Proofs.YtdbbgpcjclmelaaGreatDoor
