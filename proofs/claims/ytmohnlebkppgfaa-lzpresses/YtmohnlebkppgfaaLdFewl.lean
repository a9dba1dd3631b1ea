/- A text that is not too long, walked. -/
import Derived.Test.YtmohnlebkppgfaaCbFew
namespace Go.Proofs.Ytmohnlebkppgfaa.Ld
open Cb
open Go.RowKit
def fewS (s : ByteArray) : ByteArray := if 600 < s.size then s.extract 0 600 else s
theorem fewS_size (s : ByteArray) : (fewS s).size ≤ 600 := by
  unfold fewS
  split
  · rw [ByteArray.size_extract]; omega
  · omega
set_option maxHeartbeats 400000 in
theorem few_any (s : ByteArray) (w : World) (hs : s.size ≤ maxLen) : Calls Try.prog 8 #[.string s] w fun e w' => e = .returned (.string (fewS s)) ∧ w' = w := by
  unfold maxLen at hs
  by_cases h : 600 < s.size
  · have h1 : (600 : Int) < (s.size : Int) := by omega
    have e : fewS s = s.extract 0 600 := by rw [fewS, if_pos h]
    rw [e]
    clear e
    go_enter Try.func8, Try.ntmps8
    go_wp2
    go_ret
    exact ⟨rfl, rfl⟩
  · have h1 : ¬ (600 : Int) < (s.size : Int) := by omega
    have e : fewS s = s := by rw [fewS, if_neg h]
    rw [e]
    clear e
    go_enter Try.func8, Try.ntmps8
    go_wp2
    go_ret
    exact ⟨rfl, rfl⟩
end Go.Proofs.Ytmohnlebkppgfaa.Ld
