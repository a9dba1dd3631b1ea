/- The law ObjectCommits at whatever commit. -/
import Derived.Test.YtmjffngpaoaflaaGreatDoorLcma
import Derived.Test.YtmjffngpaoaflaaGreatDoorLcmb
import Derived.Test.YtmjffngpaoaflaaGreatDoorLcom
namespace Go.Proofs.YtmjffngpaoaflaaGreatDoor
namespace Ob
open Go.RowKit Go.Shelf
theorem commits_law (x : Cm) (w : World) (hk : Ok w) (hrow : SRow w x.pv x.ps) (h1 : x.tr.size ≤ maxLen) (h2 : x.au.size ≤ maxLen) (h3 : x.tx.size ≤ maxLen) (h4 : x.tm < 18446744073709551616) :
    Calls Tryz.prog 4 #[cmV x] w fun e w' => e = .returned (.bool true) ∧ Below w.heap.size w w' := by
  refine commits_law_of x w hk hrow h1 h2 h3 h4 ?_
  intro tr au tx tm n m a cc w hm hn i1 i2 i3
  by_cases h6 : 6 < n
  · obtain rfl : m = 6 := by omega
    exact commit_gt tr au tx tm n a cc w h6 hn i1 i2 i3
  · obtain rfl : m = n := by omega
    exact commit_le tr au tx tm m a cc w h6 i1 i2 i3
end Ob
end Go.Proofs.YtmjffngpaoaflaaGreatDoor
