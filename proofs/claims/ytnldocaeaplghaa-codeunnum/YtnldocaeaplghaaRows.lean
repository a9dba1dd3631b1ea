/-
  No cell of these rows narrows 'for every input' (looked for: loops, veiled, ifaces, maps, wideKeys, modest, calm, conditions, laid).
  DERIVED. THE GIVEN ROWS OF THIS SEAT. 4 by the template 'for every input the law returns true; each argument reads behind the call as it read before'; 0 by the template 'total and deterministic' (their statements: YtnldocaeaplghaaTotals.lean).
  GIVEN WITH THE SEED: the statements are not yours to turn. If you find one false, say at which input.
  Laid BY PROGRAM, IN A SANDBOX (cutbox-rows.mjs): the forced cells as the released guide's own fill.sh prints them over the translation 16a1a9110745876f… (all of the seat's roots in one cut). By AI agents, Wed Nov 11 2026. No macro, syntax, notation, axiom, sorry.
-/
import Derived.Test.YtnldocaeaplghaaChecked
import GoSem.Claim
import GoSem.ClaimJoined
import GoSem.ClaimMapViews
import Derived.JoinedTies
import Derived.KernelRfl
namespace Go.Proofs.Ytnldocaeaplghaa
/- THE CELL 'sum', in the pinned program and in every row, IS THE sha256 OF THE DUMP (.gsa) THAT YtnldocaeaplghaaProg.lean LOADS. Nothing in Lean hashes anything: it is a label: what it is worth is what the hold of that sum in a sandbox is worth. -/
noncomputable def Try.pinned : Pinned := { name := "ytnldocaeaplghaa", sum := "16a1a9110745876f84b0b027af2184fc36824792ca913faae34381fc2bff590e", checked := Try.checked }
namespace Rows
def none {H : Type} : Left H := { results := [], args := [] }

/-- 'pollardlaw02.CodeHex': WHATEVER THE INPUT: true; the input reads as it did. -/
def codeHexSpec : ChangeSpec := { name := "codeHex", fn := fun _ => fun
  | [d] => { results := [.lit (.bool true)], args := [d] }
  | _ => none }
def codeHexRow : OpenClaim := { program := "ytnldocaeaplghaa", sum := "16a1a9110745876f84b0b027af2184fc36824792ca913faae34381fc2bff590e", func := "pollard/pollardlaw02.CodeHex", spec := "codeHex", inPlace := ["internal/bytealg.IndexByteString"], apart := false }
def CodeHexSaid : Prop := codeHexRow.holds Try.pinned (OpenSpec.ofChange codeHexSpec)

/-- ITS FALSE NEIGHBOUR: 'it returns false'. Refute it at one input. -/
def codeHexWrong : ChangeSpec := { name := "codeHex", fn := fun _ => fun
  | [d] => { results := [.lit (.bool false)], args := [d] }
  | _ => none }
def CodeHexWrongFalsely : Prop := codeHexRow.holds Try.pinned (OpenSpec.ofChange codeHexWrong)

/-- 'pollardlaw02.CodeUnhex': WHATEVER THE INPUT: true; the input reads as it did. -/
def codeUnhexSpec : ChangeSpec := { name := "codeUnhex", fn := fun _ => fun
  | [d] => { results := [.lit (.bool true)], args := [d] }
  | _ => none }
def codeUnhexRow : OpenClaim := { program := "ytnldocaeaplghaa", sum := "16a1a9110745876f84b0b027af2184fc36824792ca913faae34381fc2bff590e", func := "pollard/pollardlaw02.CodeUnhex", spec := "codeUnhex", inPlace := ["internal/bytealg.IndexByteString"], apart := false }
def CodeUnhexSaid : Prop := codeUnhexRow.holds Try.pinned (OpenSpec.ofChange codeUnhexSpec)

/-- ITS FALSE NEIGHBOUR: 'it returns false'. Refute it at one input. -/
def codeUnhexWrong : ChangeSpec := { name := "codeUnhex", fn := fun _ => fun
  | [d] => { results := [.lit (.bool false)], args := [d] }
  | _ => none }
def CodeUnhexWrongFalsely : Prop := codeUnhexRow.holds Try.pinned (OpenSpec.ofChange codeUnhexWrong)

/-- 'pollardlaw02.CodeNum': WHATEVER THE INPUT: true; the input reads as it did. -/
def codeNumSpec : ChangeSpec := { name := "codeNum", fn := fun _ => fun
  | [d] => { results := [.lit (.bool true)], args := [d] }
  | _ => none }
def codeNumRow : OpenClaim := { program := "ytnldocaeaplghaa", sum := "16a1a9110745876f84b0b027af2184fc36824792ca913faae34381fc2bff590e", func := "pollard/pollardlaw02.CodeNum", spec := "codeNum", apart := false }
def CodeNumSaid : Prop := codeNumRow.holds Try.pinned (OpenSpec.ofChange codeNumSpec)

/-- ITS FALSE NEIGHBOUR: 'it returns false'. Refute it at one input. -/
def codeNumWrong : ChangeSpec := { name := "codeNum", fn := fun _ => fun
  | [d] => { results := [.lit (.bool false)], args := [d] }
  | _ => none }
def CodeNumWrongFalsely : Prop := codeNumRow.holds Try.pinned (OpenSpec.ofChange codeNumWrong)

/-- 'pollardlaw02.CodeUnnum': WHATEVER THE INPUT: true; the input reads as it did. -/
def codeUnnumSpec : ChangeSpec := { name := "codeUnnum", fn := fun _ => fun
  | [d] => { results := [.lit (.bool true)], args := [d] }
  | _ => none }
def codeUnnumRow : OpenClaim := { program := "ytnldocaeaplghaa", sum := "16a1a9110745876f84b0b027af2184fc36824792ca913faae34381fc2bff590e", func := "pollard/pollardlaw02.CodeUnnum", spec := "codeUnnum", apart := false }
def CodeUnnumSaid : Prop := codeUnnumRow.holds Try.pinned (OpenSpec.ofChange codeUnnumSpec)

/-- ITS FALSE NEIGHBOUR: 'it returns false'. Refute it at one input. -/
def codeUnnumWrong : ChangeSpec := { name := "codeUnnum", fn := fun _ => fun
  | [d] => { results := [.lit (.bool false)], args := [d] }
  | _ => none }
def CodeUnnumWrongFalsely : Prop := codeUnnumRow.holds Try.pinned (OpenSpec.ofChange codeUnnumWrong)

/- THE SECOND FORM. 'bulk': how many values and letters a reading holds, each counted each time it is reached (what is shared counts as often as it is met; a slice's spare places count too). A statement '..UptoSaid' is the law's where the arguments, and the package variables that the reading takes, are together of bulk at most 1048576: NARROWER than '..Said'. Prove '..Said' where nothing that the law and all that it calls make is longer than what came in: it says more and counts as full. Else prove '..UptoSaid'. A law counts once. -/
mutual
def uptoBulk {H : Type} : DataW H → Nat
  | .lit (.string bytes) => bytes.length + 1
  | .lit _ => 1
  | .nil => 1
  | .ptr d => uptoBulk d + 1
  | .slice elems spare => uptoBulkAll elems + uptoBulkAll spare + 1
  | .agg parts => uptoBulkAll parts + 1
  | .iface _ d => uptoBulk d + 1
  | .map entries => uptoBulkEntries entries + 1
  | .held _ => 1
def uptoBulkAll {H : Type} : List (DataW H) → Nat
  | [] => 0
  | d :: r => uptoBulk d + uptoBulkAll r
def uptoBulkEntries {H : Type} : List (Lit × DataW H) → Nat
  | [] => 0
  | x :: r => uptoBulkEntry x + uptoBulkEntries r
def uptoBulkEntry {H : Type} : Lit × DataW H → Nat
  | (.string bytes, d) => bytes.length + uptoBulk d + 1
  | (_, d) => uptoBulk d + 1
 end
def uptoSmall : (H : Type) → List (DataW H) → Bool := fun _ ds => decide (uptoBulkAll ds ≤ 1048576)
def OpenSpec.upto (s : _root_.Go.ChangeSpec) : _root_.Go.OpenSpec := { _root_.Go.OpenSpec.ofChange s with cond := some uptoSmall }

/-- 'pollardlaw02.CodeHex', WHERE WHAT IT READS IS OF BULK AT MOST 1048576: true; the input reads as it did. -/
def codeHexUptoRow : OpenClaim := { program := "ytnldocaeaplghaa", sum := "16a1a9110745876f84b0b027af2184fc36824792ca913faae34381fc2bff590e", func := "pollard/pollardlaw02.CodeHex", spec := "codeHex", inPlace := ["internal/bytealg.IndexByteString"], apart := false, narrowed := true }
def CodeHexUptoSaid : Prop := codeHexUptoRow.holds Try.pinned (OpenSpec.upto codeHexSpec)

/-- 'pollardlaw02.CodeUnhex', WHERE WHAT IT READS IS OF BULK AT MOST 1048576: true; the input reads as it did. -/
def codeUnhexUptoRow : OpenClaim := { program := "ytnldocaeaplghaa", sum := "16a1a9110745876f84b0b027af2184fc36824792ca913faae34381fc2bff590e", func := "pollard/pollardlaw02.CodeUnhex", spec := "codeUnhex", inPlace := ["internal/bytealg.IndexByteString"], apart := false, narrowed := true }
def CodeUnhexUptoSaid : Prop := codeUnhexUptoRow.holds Try.pinned (OpenSpec.upto codeUnhexSpec)

/-- 'pollardlaw02.CodeNum', WHERE WHAT IT READS IS OF BULK AT MOST 1048576: true; the input reads as it did. -/
def codeNumUptoRow : OpenClaim := { program := "ytnldocaeaplghaa", sum := "16a1a9110745876f84b0b027af2184fc36824792ca913faae34381fc2bff590e", func := "pollard/pollardlaw02.CodeNum", spec := "codeNum", apart := false, narrowed := true }
def CodeNumUptoSaid : Prop := codeNumUptoRow.holds Try.pinned (OpenSpec.upto codeNumSpec)

/-- 'pollardlaw02.CodeUnnum', WHERE WHAT IT READS IS OF BULK AT MOST 1048576: true; the input reads as it did. -/
def codeUnnumUptoRow : OpenClaim := { program := "ytnldocaeaplghaa", sum := "16a1a9110745876f84b0b027af2184fc36824792ca913faae34381fc2bff590e", func := "pollard/pollardlaw02.CodeUnnum", spec := "codeUnnum", apart := false, narrowed := true }
def CodeUnnumUptoSaid : Prop := codeUnnumUptoRow.holds Try.pinned (OpenSpec.upto codeUnnumSpec)

end Rows
end Go.Proofs.Ytnldocaeaplghaa
