/- The laws' own small functions, walked: a text that is not too long; the sum of abc. -/
import Derived.Test.YtjjaalmmibfcoaaDoorAbc
namespace Go.Proofs.YtjjaalmmibfcoaaDoor
open Go.RowKit
def fewS (s : ByteArray) : ByteArray := if 400 < s.size then s.extract 0 400 else s
theorem fewS_size (s : ByteArray) : (fewS s).size ≤ 400 := by
  unfold fewS
  split
  · rw [ByteArray.size_extract]; omega
  · omega
set_option maxHeartbeats 400000 in
theorem few_any (s : ByteArray) (w : World) (hs : s.size ≤ maxLen) : Calls Tryd.prog 9 #[.string s] w fun e w' => e = .returned (.string (fewS s)) ∧ w' = w := by
  unfold maxLen at hs
  by_cases h : 400 < s.size
  · have h1 : (400 : Int) < (s.size : Int) := by omega
    have e : fewS s = s.extract 0 400 := by rw [fewS, if_pos h]
    rw [e]
    clear e
    go_enter Tryd.func9, Tryd.ntmps9
    go_wp2
    go_ret
    exact ⟨rfl, rfl⟩
  · have h1 : ¬ (400 : Int) < (s.size : Int) := by omega
    have e : fewS s = s := by rw [fewS, if_neg h]
    rw [e]
    clear e
    go_enter Tryd.func9, Tryd.ntmps9
    go_wp2
    go_ret
    exact ⟨rfl, rfl⟩
set_option maxHeartbeats 400000 in
set_option maxRecDepth 100000 in
theorem awake_any (w : World) (hK : KAt w) : Calls Tryd.prog 7 #[] w fun e w' => e = .returned (.bool true) ∧ Below w.heap.size w w' := by
  have ha := of_any ⟨#[97, 98, 99]⟩ w hK (by decide)
  have e : Sha.sha (⟨#[97, 98, 99]⟩ : ByteArray).data.toList = Sha.abcSum := Sha.abc_is
  rw [e] at ha
  have HA := hideIt ha
  have hl : (Sha.abcSum.size : Int) = 32 := by decide
  have h0 : ((Sha.abcSum[0]'(by decide)).toNat : Int) = 186 := by decide
  have h1 : ((Sha.abcSum[1]'(by decide)).toNat : Int) = 120 := by decide
  have h31 : ((Sha.abcSum[31]'(by decide)).toNat : Int) = 173 := by decide
  clear ha e hK
  go_enter Tryd.func7, Tryd.ntmps7
  go_wp2_with (first | (go_at_call 8; refine HA.out.mono ?_; rintro e w1 ⟨rfl, hb1⟩))
  go_ret
  exact ⟨rfl, hb1⟩
end Go.Proofs.YtjjaalmmibfcoaaDoor
