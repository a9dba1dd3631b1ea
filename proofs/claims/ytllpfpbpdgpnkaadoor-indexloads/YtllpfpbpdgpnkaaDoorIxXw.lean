/- Indexes: spots that make none: walked. -/
import Derived.Test.YtllpfpbpdgpnkaaDoorIxXv
namespace Go.Proofs.YtllpfpbpdgpnkaaDoor.Ix
open Cb Go.RowKit Go.Shelf
set_option maxHeartbeats 400000 in
set_option maxRecDepth 100000 in
theorem new_pack (pack : ByteArray) (v : Value) (w : World) (h : ¬ pack.size = 32) : Calls Tryd.prog 8 #[.string pack, v] w fun e w' => e = .returned (.tuple #[.pointer none, .int .i64 1]) ∧ w' = w := by
  have hp1 : ¬ (pack.size : Int) = 32 := by omega
  have hp2 : ((pack.size : Int) != 32) = true := by simpa using hp1
  have hp3 : ((pack.size : Int) == 32) = false := by simpa using hp1
  clear h
  go_enter Tryd.func8, Tryd.ntmps8
  go_wp2
  go_ret2
  exact ⟨rfl, rfl⟩
set_option maxHeartbeats 400000 in
set_option maxRecDepth 100000 in
theorem new_much (pack : ByteArray) (a : Option Addr) (n c : Nat) (w : World) (h : pack.size = 32) (hn : 2048 < n) : Calls Tryd.prog 8 #[.string pack, .slice a n c] w fun e w' => e = .returned (.tuple #[.pointer none, .int .i64 3]) ∧ w' = w := by
  have hp1 : (pack.size : Int) = 32 := by omega
  have hp2 : ((pack.size : Int) != 32) = false := by simpa using hp1
  have hp3 : ((pack.size : Int) == 32) = true := by simpa using hp1
  have n1 : (2048 : Int) < (n : Int) := by omega
  have n2 : decide ((2048 : Int) < (n : Int)) = true := decide_eq_true n1
  clear h hn
  go_enter Tryd.func8, Tryd.ntmps8
  go_wp2
  go_ret2
  exact ⟨rfl, rfl⟩
set_option maxHeartbeats 800000 in
set_option maxRecDepth 100000 in
theorem new_wrong (pack : ByteArray) (v : Value) (l : List Sp) (w : World) (h : SRow w v l) (hp : pack.size = 32) (hl : l.length ≤ 2048) (hw : l.any wrong = true) : Calls Tryd.prog 8 #[.string pack, v] w fun e w' => e = .returned (.tuple #[.pointer none, .int .i64 1]) ∧ Below w.heap.size w w' := by
  have HC := hideIt (containsFunc_any v l w h)
  rw [hw] at HC
  obtain ⟨a, c, rfl, hlc, ⟨hcm, hnn⟩, hrow⟩ := h
  have hp1 : (pack.size : Int) = 32 := by omega
  have hp2 : ((pack.size : Int) != 32) = false := by simpa using hp1
  have hp3 : ((pack.size : Int) == 32) = true := by simpa using hp1
  obtain ⟨n, hn⟩ : ∃ n, l.length = n := ⟨_, rfl⟩
  rw [hn] at HC hl ⊢
  have n1 : ¬ (2048 : Int) < (n : Int) := by omega
  have n2 : decide ((2048 : Int) < (n : Int)) = false := decide_eq_false n1
  clear hw hrow hnn hcm hn hp hlc
  go_enter Tryd.func8, Tryd.ntmps8
  go_wp2_with (first | (go_at_call 19; refine HC.out.mono ?_; rintro e w1 ⟨rfl, hb1⟩))
  go_ret2
  exact ⟨rfl, hb1⟩
end Go.Proofs.YtllpfpbpdgpnkaaDoor.Ix
