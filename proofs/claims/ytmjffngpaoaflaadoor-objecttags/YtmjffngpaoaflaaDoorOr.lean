/- The document's id, walked. -/
import Derived.Test.YtmjffngpaoaflaaDoorOo
import Derived.Test.YtmjffngpaoaflaaDoorSaRef
namespace Go.Proofs.YtmjffngpaoaflaaDoor
namespace Ob
open Go.RowKit Go.Shelf
set_option maxHeartbeats 400000 in
theorem refid_any (s : ByteArray) (w : World) (hs : s.size < 100000000) :
    Calls Tryd.prog 11 #[.string s] w fun e w' => e = .returned (.string (Sa.Sha.sha s.data.toList)) ∧ Below w.heap.size w w' := by
  have H := hideIt (Sa.ref_any s w hs)
  go_enter Tryd.func11, Tryd.ntmps11
  go_wp2_with (first | (go_at_call 24; refine H.out.mono ?_; rintro e w1 ⟨rfl, hb1⟩))
  go_ret
  exact ⟨rfl, hb1⟩
end Ob
end Go.Proofs.YtmjffngpaoaflaaDoor
