/- Refs: whom forward is asked of: walked. -/
import Derived.Test.YtecdjejemohkgaaRfRk
import Derived.Defers
import Derived.Recover
namespace Go.Proofs.Ytecdjejemohkgaa.Rf
open Cb Go.RowKit
/-- A function that answers, whatever it is asked, and keeps all that is there. -/
def Fwd (w : World) (k : Nat) (lb : Array Value) (f : ByteArray → ByteArray → Bool) : Prop :=
  (∀ args w, (callFunc k args).run Try.prog w = .ok (.enter k args) w) ∧ ∀ (W : World) (a b : ByteArray), Below w.heap.size w W → Calls Try.prog k (#[.string a, .string b] ++ lb) W fun e w' => e = .returned (.bool (f a b)) ∧ Below W.heap.size W w'
theorem Fwd.below {w w1 : World} {k : Nat} {lb : Array Value} {f : ByteArray → ByteArray → Bool} (h : Fwd w k lb f) (hb : Below w.heap.size w w1) : Fwd w1 k lb f :=
  ⟨h.1, fun W a b hW => h.2 W a b (below_step hb (Nat.le_refl _) hW)⟩
theorem may_idle (w : World) : CallsD Try.prog 58 #[] .returning w fun e u' w' => e = .returned (.tuple #[]) ∧ u' = .returning ∧ w' = w := by
  refine callsD_of_wpS Try.func58 rfl fun c₀ cs hu => ?_
  apply wpS_region
  simp [wpOpsS, go_sem, recoverD, hu, Try.ntmps58, bodyPostS, results, Try.results58]
  cases c₀
  simp_all
set_option maxHeartbeats 1600000 in
set_option maxRecDepth 100000 in
theorem mayGo_any (k : Nat) (lb : Array Value) (f : ByteArray → ByteArray → Bool) (a b : ByteArray) (w : World) (h : Fwd w k lb f) :
    Calls Try.prog 45 #[.func (.func k) #[] lb, .string a, .string b] w fun e w' => e = .returned (.bool (f a b)) ∧ Below w.heap.size w w' := by
  have eg := h.1
  have HC := hideIt (h.2 w a b (Below.refl _ _))
  generalize f a b = r at HC ⊢
  clear h
  have hmf : ∀ (fn : Fn) (first cap : Array Value) (w : World), (Instr.makeFunc fn first cap).run Try.prog w = .ok (.func fn first cap) w := fun _ _ _ _ => rfl
  go_enter_defers Try.func45, Try.ntmps45
  go_wp2_with (go_at_fn k; refine HC.out.mono ?_; rintro e w1 ⟨rfl, hb1⟩)
  refine leaves_cons (f := 58) (args := #[]) (by simp) (by simp [go_sem]) ?_
  refine (may_idle _).mono ?_
  rintro e u' w'' ⟨rfl, rfl, rfl⟩
  exact ⟨_, results_tmp rfl _ _ _, rfl, hb1⟩
end Go.Proofs.Ytecdjejemohkgaa.Rf
