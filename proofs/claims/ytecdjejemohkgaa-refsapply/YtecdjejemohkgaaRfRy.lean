/- Refs: the laws' own answers of forward: walked. -/
import Derived.Test.YtecdjejemohkgaaRfRm
namespace Go.Proofs.Ytecdjejemohkgaa.Rf
open Cb Go.RowKit
theorem never_any (a b : ByteArray) (w : World) : Calls Try.prog 29 #[.string a, .string b] w fun e w' => e = .returned (.bool false) ∧ Below w.heap.size w w' := by
  go_enter Try.func29, Try.ntmps29
  go_wp2
  go_ret
  exact ⟨rfl, Below.refl _ _⟩
theorem always_any (a b : ByteArray) (w : World) : Calls Try.prog 22 #[.string a, .string b] w fun e w' => e = .returned (.bool true) ∧ Below w.heap.size w w' := by
  go_enter Try.func22, Try.ntmps22
  go_wp2
  go_ret
  exact ⟨rfl, Below.refl _ _⟩
theorem fwd_never (w : World) : Fwd w 29 #[] (fun _ _ => false) :=
  ⟨enters_of Try.func29 (by kernel_rfl) rfl, fun W a b _ => never_any a b W⟩
theorem fwd_always (w : World) : Fwd w 22 #[] (fun _ _ => true) :=
  ⟨enters_of Try.func22 (by kernel_rfl) rfl, fun W a b _ => always_any a b W⟩
end Go.Proofs.Ytecdjejemohkgaa.Rf
