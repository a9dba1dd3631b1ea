/-
  No cell of these rows narrows 'for every input' (looked for: loops, veiled, ifaces, maps, wideKeys, modest, calm, conditions, laid).
  DERIVED. THE GIVEN ROWS OF THIS SEAT. 3 by the template 'for every input the law returns true; each argument reads behind the call as it read before'; 0 by the template 'total and deterministic' (their statements: YtecdjejemohkgaaTotals.lean).
  GIVEN WITH THE SEED: the statements are not yours to turn. If you find one false, say at which input.
  Laid BY PROGRAM, IN A SANDBOX (cutbox-rows.mjs): the forced cells as the released guide's own fill.sh prints them over the translation a39c2d8fe9e53716… (all of the seat's roots in one cut). By AI agents, Wed Nov 11 2026. No macro, syntax, notation, axiom, sorry.
-/
import Derived.Test.YtecdjejemohkgaaChecked
import GoSem.Claim
import GoSem.ClaimJoined
import GoSem.ClaimMapViews
import Derived.JoinedTies
import Derived.KernelRfl
namespace Go.Proofs.Ytecdjejemohkgaa
/- THE CELL 'sum', in the pinned program and in every row, IS THE sha256 OF THE DUMP (.gsa) THAT YtecdjejemohkgaaProg.lean LOADS. Nothing in Lean hashes anything: it is a label: what it is worth is what the hold of that sum in a sandbox is worth. -/
noncomputable def Try.pinned : Pinned := { name := "ytecdjejemohkgaa", sum := "a39c2d8fe9e53716bb83c1f9d1f46e65156563932bf4fe75d48678f6cb9d6aca", checked := Try.checked }
namespace Rows
def none {H : Type} : Left H := { results := [], args := [] }

/-- 'pollardlaw13.RefsApply': WHATEVER THE INPUT: true; the input reads as it did. -/
def refsApplySpec : ChangeSpec := { name := "refsApply", fn := fun _ => fun
  | [d1, d2, d3] => { results := [.lit (.bool true)], args := [d1, d2, d3] }
  | _ => none }
def refsApplyRow : OpenClaim := { program := "ytecdjejemohkgaa", sum := "a39c2d8fe9e53716bb83c1f9d1f46e65156563932bf4fe75d48678f6cb9d6aca", func := "pollard/pollardlaw13.RefsApply", spec := "refsApply", inPlace := ["internal/bytealg.abigen_runtime_cmpstring", "slices.overlaps[pollard/api.Ref]"], unfollowed := true, recurses := true, apart := false }
def RefsApplySaid : Prop := refsApplyRow.holds Try.pinned (OpenSpec.ofChange refsApplySpec)

/-- ITS FALSE NEIGHBOUR: 'it returns false'. Refute it at one input. -/
def refsApplyWrong : ChangeSpec := { name := "refsApply", fn := fun _ => fun
  | [d1, d2, d3] => { results := [.lit (.bool false)], args := [d1, d2, d3] }
  | _ => none }
def RefsApplyWrongFalsely : Prop := refsApplyRow.holds Try.pinned (OpenSpec.ofChange refsApplyWrong)

/-- 'pollardlaw13.RefsBytes': WHATEVER THE INPUT: true; the input reads as it did. -/
def refsBytesSpec : ChangeSpec := { name := "refsBytes", fn := fun _ => fun
  | [d1, d2] => { results := [.lit (.bool true)], args := [d1, d2] }
  | _ => none }
def refsBytesRow : OpenClaim := { program := "ytecdjejemohkgaa", sum := "a39c2d8fe9e53716bb83c1f9d1f46e65156563932bf4fe75d48678f6cb9d6aca", func := "pollard/pollardlaw13.RefsBytes", spec := "refsBytes", inPlace := ["internal/abi.NoEscape", "internal/bytealg.abigen_runtime_cmpstring", "slices.overlaps[pollard/api.Ref]", "internal/bytealg.IndexByteString", "internal/bytealg.IndexString"], unfollowed := true, recurses := true, named := ["internal/bytealg.MaxLen"], apart := false }
def RefsBytesSaid : Prop := refsBytesRow.holds Try.pinned (OpenSpec.ofChange refsBytesSpec)

/-- ITS FALSE NEIGHBOUR: 'it returns false'. Refute it at one input. -/
def refsBytesWrong : ChangeSpec := { name := "refsBytes", fn := fun _ => fun
  | [d1, d2] => { results := [.lit (.bool false)], args := [d1, d2] }
  | _ => none }
def RefsBytesWrongFalsely : Prop := refsBytesRow.holds Try.pinned (OpenSpec.ofChange refsBytesWrong)

/-- 'pollardlaw13.RefsMost': WHATEVER THE INPUT: true; the input reads as it did. -/
def refsMostSpec : ChangeSpec := { name := "refsMost", fn := fun _ => fun
  | [d] => { results := [.lit (.bool true)], args := [d] }
  | _ => none }
def refsMostRow : OpenClaim := { program := "ytecdjejemohkgaa", sum := "a39c2d8fe9e53716bb83c1f9d1f46e65156563932bf4fe75d48678f6cb9d6aca", func := "pollard/pollardlaw13.RefsMost", spec := "refsMost", inPlace := ["internal/bytealg.abigen_runtime_cmpstring", "slices.overlaps[pollard/api.Ref]"], unfollowed := true, recurses := true, apart := false }
def RefsMostSaid : Prop := refsMostRow.holds Try.pinned (OpenSpec.ofChange refsMostSpec)

/-- ITS FALSE NEIGHBOUR: 'it returns false'. Refute it at one input. -/
def refsMostWrong : ChangeSpec := { name := "refsMost", fn := fun _ => fun
  | [d] => { results := [.lit (.bool false)], args := [d] }
  | _ => none }
def RefsMostWrongFalsely : Prop := refsMostRow.holds Try.pinned (OpenSpec.ofChange refsMostWrong)

/- THE SECOND FORM. 'bulk': how many values and letters a reading holds, each counted each time it is reached (what is shared counts as often as it is met; a slice's spare places count too). A statement '..UptoSaid' is the law's where the arguments, and the package variables that the reading takes, are together of bulk at most 1048576: NARROWER than '..Said'. Prove '..Said' where nothing that the law and all that it calls make is longer than what came in: it says more and counts as full. Else prove '..UptoSaid'. A law counts once. -/
mutual
def uptoBulk {H : Type} : DataW H → Nat
  | .lit (.string bytes) => bytes.length + 1
  | .lit _ => 1
  | .nil => 1
  | .ptr d => uptoBulk d + 1
  | .slice elems spare => uptoBulkAll elems + uptoBulkAll spare + 1
  | .agg parts => uptoBulkAll parts + 1
  | .iface _ d => uptoBulk d + 1
  | .map entries => uptoBulkEntries entries + 1
  | .held _ => 1
def uptoBulkAll {H : Type} : List (DataW H) → Nat
  | [] => 0
  | d :: r => uptoBulk d + uptoBulkAll r
def uptoBulkEntries {H : Type} : List (Lit × DataW H) → Nat
  | [] => 0
  | x :: r => uptoBulkEntry x + uptoBulkEntries r
def uptoBulkEntry {H : Type} : Lit × DataW H → Nat
  | (.string bytes, d) => bytes.length + uptoBulk d + 1
  | (_, d) => uptoBulk d + 1
 end
def uptoSmall : (H : Type) → List (DataW H) → Bool := fun _ ds => decide (uptoBulkAll ds ≤ 1048576)
def OpenSpec.upto (s : _root_.Go.ChangeSpec) : _root_.Go.OpenSpec := { _root_.Go.OpenSpec.ofChange s with cond := some uptoSmall }

/-- 'pollardlaw13.RefsApply', WHERE WHAT IT READS IS OF BULK AT MOST 1048576: true; the input reads as it did. -/
def refsApplyUptoRow : OpenClaim := { program := "ytecdjejemohkgaa", sum := "a39c2d8fe9e53716bb83c1f9d1f46e65156563932bf4fe75d48678f6cb9d6aca", func := "pollard/pollardlaw13.RefsApply", spec := "refsApply", inPlace := ["internal/bytealg.abigen_runtime_cmpstring", "slices.overlaps[pollard/api.Ref]"], unfollowed := true, recurses := true, apart := false, narrowed := true }
def RefsApplyUptoSaid : Prop := refsApplyUptoRow.holds Try.pinned (OpenSpec.upto refsApplySpec)

/-- 'pollardlaw13.RefsBytes', WHERE WHAT IT READS IS OF BULK AT MOST 1048576: true; the input reads as it did. -/
def refsBytesUptoRow : OpenClaim := { program := "ytecdjejemohkgaa", sum := "a39c2d8fe9e53716bb83c1f9d1f46e65156563932bf4fe75d48678f6cb9d6aca", func := "pollard/pollardlaw13.RefsBytes", spec := "refsBytes", inPlace := ["internal/abi.NoEscape", "internal/bytealg.abigen_runtime_cmpstring", "slices.overlaps[pollard/api.Ref]", "internal/bytealg.IndexByteString", "internal/bytealg.IndexString"], unfollowed := true, recurses := true, named := ["internal/bytealg.MaxLen"], apart := false, narrowed := true }
def RefsBytesUptoSaid : Prop := refsBytesUptoRow.holds Try.pinned (OpenSpec.upto refsBytesSpec)

/-- 'pollardlaw13.RefsMost', WHERE WHAT IT READS IS OF BULK AT MOST 1048576: true; the input reads as it did. -/
def refsMostUptoRow : OpenClaim := { program := "ytecdjejemohkgaa", sum := "a39c2d8fe9e53716bb83c1f9d1f46e65156563932bf4fe75d48678f6cb9d6aca", func := "pollard/pollardlaw13.RefsMost", spec := "refsMost", inPlace := ["internal/bytealg.abigen_runtime_cmpstring", "slices.overlaps[pollard/api.Ref]"], unfollowed := true, recurses := true, apart := false, narrowed := true }
def RefsMostUptoSaid : Prop := refsMostUptoRow.holds Try.pinned (OpenSpec.upto refsMostSpec)

end Rows
end Go.Proofs.Ytecdjejemohkgaa
