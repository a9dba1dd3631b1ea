/- From the listed variables' condition to the table and the two errors, and the door's own heap: what the rows' proofs share. -/
import Derived.Test.YtnldocaeaplghaaDoorLawd
import Derived.Test.YtnldocaeaplghaaDoorTie
import Derived.Test.YtnldocaeaplghaaDoorCards
import Derived.ProofKit
import Derived.LaidMore
import Derived.LaidSub
import Derived.OpenShut
import Derived.Stop.Joined
import Derived.Stop.LaidErr
import Derived.Lib.LaidTab
namespace Go.Proofs.YtnldocaeaplghaaDoor
open Go.ChangeShapes Go.WideShapes Go.ChangeAt Go.WideMaps Go.WideElems Go.RowKit
theorem ownK : ownKnob Tryd.prog.godebug = none := by kernel_rfl
abbrev laidK : List (String × DataW Unit) := Rows.codeDecRow.laid
theorem door_met (os : Os) (args : Array Value) : laidMetH Tryd.prog laidK ((World.doorLaid Tryd.prog 400 os).forCall (fun _ _ => 0) ⟨#[], args, []⟩).memory :=
  laidMetH_of_parts3 (fuel := 8) (laidMet_of_run' 8 (by kernel_rfl) (by kernel_rfl)) (by kernel_rfl) (by kernel_rfl)
theorem gTab : Tryd.prog.globalNamed tabName = some 2 := by kernel_rfl
theorem tTab : (Tryd.prog.globals[2]?).map (·.type) = some 60 := by kernel_rfl
theorem gES : Tryd.prog.globalNamed "strconv.ErrSyntax" = some 0 := by kernel_rfl
theorem tES : (Tryd.prog.globals[0]?).map (·.type) = some 34 := by kernel_rfl
theorem gER : Tryd.prog.globalNamed "strconv.ErrRange" = some 1 := by kernel_rfl
theorem tER : (Tryd.prog.globals[1]?).map (·.type) = some 34 := by kernel_rfl
theorem cells68 : Tryd.prog.cellsOf 68 = 1 := by kernel_rfl
theorem cells9 : Tryd.prog.cellsOf 9 = 1 := by kernel_rfl
theorem star : "*" ++ "errors.errorString" = "*errors.errorString" := by decide
theorem row66 (u : TypeId) (h : Tryd.prog.typeName? 3 u = some "*errors.errorString") : u = 66 :=
  typeName_ptr_named (nm := "errors.errorString") (by rw [star]; kernel_rfl) (by kernel_rfl) (by decide) u (by rw [star]; exact h)
theorem onlyTab : laidK.filter (fun x => x.1 == tabName) = [(tabName, Lib.tabData .u64 Lib.pow10Tab)] := by kernel_rfl
theorem onlyES : laidK.filter (fun x => x.1 == "strconv.ErrSyntax") = [("strconv.ErrSyntax", Rows.laid_strconv_ErrSyntax)] := by kernel_rfl
theorem onlyER : laidK.filter (fun x => x.1 == "strconv.ErrRange") = [("strconv.ErrRange", Rows.laid_strconv_ErrRange)] := by kernel_rfl
theorem plainK (W : World) (h : laidMetH Tryd.prog laidK W) : laidMet Tryd.prog laidK W := by
  rw [MakeChecks.laidMetH_plain _ _ _ (by kernel_rfl)] at h
  exact h
theorem tab_of_laid {W : World} (h : laidMetH Tryd.prog laidK W) : Tab W := by
  have h1 := (plainK W h).filter (fun x => x.1 == tabName)
  rw [onlyTab] at h1
  exact Lib.tabIs_of_head gTab tTab Tryd.underlying60 Tryd.underlying22 (by kernel_rfl) (by kernel_rfl) h1
theorem errs_of_laid {W : World} (h : laidMetH Tryd.prog laidK W) : Errs W := by
  have h1 := (plainK W h).filter (fun x => x.1 == "strconv.ErrSyntax")
  rw [onlyES] at h1
  have h2 := (plainK W h).filter (fun x => x.1 == "strconv.ErrRange")
  rw [onlyER] at h2
  obtain ⟨a0, s0, hv0, -, -, -⟩ := laid_sentinel h1 gES tES Tryd.underlying34 row66 Tryd.underlying66 Tryd.underlying68 rfl rfl Tryd.underlying9 cells68 cells9
  obtain ⟨a1, s1, hv1, -, -, -⟩ := laid_sentinel h2 gER tER Tryd.underlying34 row66 Tryd.underlying66 Tryd.underlying68 rfl rfl Tryd.underlying9 cells68 cells9
  exact ⟨⟨_, _, hv0⟩, ⟨_, _, hv1⟩⟩
def Both (W : World) : Prop := Tab W ∧ Errs W
theorem both_of_laid {W : World} (h : laidMetH Tryd.prog laidK W) : Both W := ⟨tab_of_laid h, errs_of_laid h⟩
theorem dec_z (z : Int) (w : World) (h : (Lit.int .u64 z).wf = true) (hB : Both w) :
    Calls Tryd.prog 3 #[.int .u64 z] w fun e w' => e = .returned (.bool true) ∧ Below w.heap.size w w' := by
  have h2 : 0 ≤ z ∧ z ≤ 18446744073709551615 := by simpa [Lit.wf, IntKind.min, IntKind.max, IntKind.signed, IntKind.bits] using h
  obtain ⟨n, rfl⟩ : ∃ n : Nat, z = (n : Int) := ⟨z.toNat, by omega⟩
  exact dec_law n w (by omega) hB.1 hB.2
theorem undec_z (s : ByteArray) (w : World) (hs : s.size ≤ maxLen) (hB : Both w) :
    Calls Tryd.prog 4 #[.string s] w fun e w' => e = .returned (.bool true) ∧ Below w.heap.size w w' := undec_law s w hs hB.1 hB.2
end Go.Proofs.YtnldocaeaplghaaDoor
