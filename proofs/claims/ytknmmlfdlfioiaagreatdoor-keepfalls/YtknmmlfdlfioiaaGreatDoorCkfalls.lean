/- Wherever the power fails, in keeping refs and in standing up, they are those that were kept last, or those that were being kept, whole: the law KeepFalls returns true for every row of refs and every row of falls; the listed variables of the library and of the project are as the text of the program lays them. -/
import Derived.Test.YtknmmlfdlfioiaaGreatDoorKfAll
import Derived.Test.YtknmmlfdlfioiaaGreatDoorKqAll
import Derived.Test.YtknmmlfdlfioiaaGreatDoorTie
import Derived.Test.YtknmmlfdlfioiaaGreatDoorCards
import Derived.ProofKit
import Derived.OpenShut
import Derived.Stop.Joined
import Derived.JoinedCond
import Derived.Lay
import Derived.SizedLaws
import Derived.Deep.DeepHandedRow
import Derived.Deep.DeepWitnessRowRef
import Derived.LaidMore
import Derived.LaidSub
import Derived.Stop.LaidErr
import Derived.Lib.LaidTab
namespace Go.Proofs.YtknmmlfdlfioiaaGreatDoor
open Go.ChangeShapes Go.WideShapes Go.ChangeAt Go.WideMaps Go.WideElems Go.RowKit
open Go.ChangeMaps (open_string shut_string)
theorem ownK : ownKnob Tryz.prog.godebug = none := by kernel_rfl
abbrev laidK : List (String × DataW Unit) := Rows.keepFallsRow.laid
theorem wit_met (os : Os) (args : Array Value) : laidMet Tryz.prog laidK ((World.laidAll Tryz.prog os laidK).forCall (fun _ _ => 0) ⟨#[], args, []⟩).memory := laidMet_laidAll _ (by kernel_rfl) (by kernel_rfl)
theorem max_at {W : World} (h : W.ShapedOpen Tryz.prog) : Vc.MaxAt W :=
  cell_of_shapedOpen_int (zero := #[.int .i64 0]) (t := 3) h (of_decide_eq_true (by kernel_rfl)) (by kernel_rfl) rfl (by kernel_rfl) (by kernel_rfl) Tryz.underlying3
def cwName : String := (Rows.keepFallsRow.named.getD 3 "")
theorem onlyCW : laidK.filter (fun x => x.1 == cwName) = [(cwName, Rows.laid_pollard_code_checkWords)] := by kernel_rfl
theorem plainK (W : World) (h : laidMetH Tryz.prog laidK W) : laidMet Tryz.prog laidK W := by
  rw [MakeChecks.laidMetH_plain _ _ _ (by kernel_rfl)] at h
  exact h
theorem tWords : (Tryz.prog.globals[0]?).map (·.type) = some 132 := by kernel_rfl
theorem tab_lit : (Rows.laid_pollard_code_checkWords : DataW Unit) = Lib.tabData .u32 (Cb.Crc.tab.map fun n : Nat => (n : Int)) := by kernel_rfl
theorem k_of_laid {W : World} (h : laidMetH Tryz.prog laidK W) : Cb.KAt W := by
  have h1 := (plainK W h).filter (fun x => x.1 == cwName)
  rw [onlyCW] at h1
  obtain ⟨ps, ⟨g0, t0, cs0, f0, p0, q0, hg0, ht0, hv0, hd0, _, _⟩, _⟩ := h1
  obtain rfl : g0 = 0 := Option.some.inj (hg0.symm.trans (by kernel_rfl))
  obtain rfl := Option.some.inj (tWords.symm.trans ht0)
  rw [tab_lit] at hd0
  have hc := Lib.cells_of_tab Tryz.underlying132 Tryz.underlying116 (by kernel_rfl) (by kernel_rfl) hd0
  intro i hi
  rw [World.var?_cell hg0 hv0 i]
  have e : cs0 = (((Cb.Crc.tab.map fun n : Nat => (n : Int)).map fun z => Value.int .u32 z)).toArray := by rw [← hc]
  rw [e]
  have hl : i < Cb.Crc.tab.length := hi
  simp only [List.getElem?_toArray, List.getElem?_map, List.getElem?_eq_getElem hl, Option.map_some]
  congr 2
  have hall : ∀ k : Fin 16, Cb.Crc.tab.getD k.val 0 = (Cb.Crc.word k.val).toNat := by decide +kernel
  have := hall ⟨i, hi⟩
  simp only [List.getD, List.getElem?_eq_getElem hl, Option.getD_some] at this
  rw [this]
theorem ok_at {W : World} (h : laidMetH Tryz.prog laidK W) (hs : W.ShapedOpen Tryz.prog) : Kq.Law0 W := ⟨k_of_laid h, max_at hs, (max_at hs).pos⟩
theorem laidOutK : laidOutB Tryz.prog = true := by kernel_rfl
theorem wit_row (os : Os) {H : Type} (enc : TypeId × Value → H) :
    (OpenSpec.ofChange Rows.keepFallsSpec).preRow enc Tryz.prog Tryz.f3 [] false laidK ((World.laidAll Tryz.prog os laidK).forCall (fun _ _ => 0) ⟨#[], #[.slice none 0 0, .slice none 0 0], []⟩).memory #[.slice none 0 0, .slice none 0 0] := by
  have hw : (DataW.whole enc Tryz.prog ((World.laidAll Tryz.prog os laidK).forCall (fun _ _ => 0) ⟨#[], #[.slice none 0 0, .slice none 0 0], []⟩).memory Tryz.f3.params.toList (OpenSpec.ofChange Rows.keepFallsSpec).vars false #[Value.slice none 0 0, Value.slice none 0 0].toList 8).map (fun x => (x.1, x.2.1)) =
      some ([.nil, .nil], []) := by kernel_rfl
  obtain ⟨⟨x1, x2, x3⟩, hx, hx1⟩ := Option.map_eq_some_iff.1 hw
  simp only [Prod.mk.injEq] at hx1
  obtain ⟨rfl, rfl⟩ := hx1
  exact OpenSpec.preRow_of_cond 8 hx (by kernel_rfl) (fun k hk => by cases hk) (by kernel_rfl) (wit_met os _)
set_option maxRecDepth 100000 in
set_option maxHeartbeats 2000000 in
theorem keepFalls_lifted (os : Os) (started : os.Started) (H : Type) (enc : TypeId × Value → H) (F : Stop.Interp) :
    ReturnsInHanded {} Tryz.checked os 3 .any ((OpenSpec.ofChange Rows.keepFallsSpec).preRow enc Tryz.prog Tryz.f3 [] false laidK) (((OpenSpec.ofChange Rows.keepFallsSpec).at F).post enc Tryz.prog Tryz.f3 false true false false) := by
  refine returnsInHanded_of_row (C := Tryz.checked) (s := OpenSpec.ofChange Rows.keepFallsSpec) ownK started (by kernel_rfl) Tryz.func3
    (witness_row_atRef (enc := enc) (C := Tryz.checked) false (World.laidAll Tryz.prog os laidK) #[.slice none 0 0, .slice none 0 0] rfl (by kernel_rfl) (by kernel_rfl) (by kernel_rfl) (wit_row os enc)) ?_
  intro W base args ds gs before hval0 hW _ _ _ hL hsh _
  have hval : ∀ (j : Nat) t v, Tryz.f3.params[j]? = some t → args[j]? = some v → Value.okWide Tryz.prog W .any base t v := hval0
  have hW' := hW
  obtain ⟨p, q, hA0, hV, rfl, hfz, hnd⟩ := hW
  have hA : DataW.TrodAll enc Tryz.prog W 0 (fun _ => true) true Tryz.f3.params.toList args.toList ds p := hA0
  rw [Tryz.params3] at hA hval
  obtain ⟨v0, vs0, d0, ds0, p0, q0, hargs, rfl, rfl, h0, r0⟩ := trodAll_cons hA
  obtain ⟨v1, vs1, d1, ds1, p1, q1, rfl, rfl, rfl, h1, r1⟩ := trodAll_cons r0
  obtain ⟨rfl, rfl, rfl⟩ := trodAll_nil r1
  obtain rfl : args = #[v0, v1] := by cases args; simp_all
  obtain ⟨rfl, rfl⟩ := trodVars_none hV
  have k0 := h0
  obtain ⟨l0, t0, q0⟩ := Kq.open_rlist (hval 0 22 v0 rfl rfl) h0
  have k1 := h1
  obtain ⟨l1, t1, q1⟩ := Kf.open_falls (hval 1 23 v1 rfl rfl) h1
  clear hA0 hval0
  simp only [List.append_nil] at hW'
  refine (Kf.G.falls_law _ _ _ _ W (ok_at hL hsh) t0 t1).mono ?_
  rintro e W' ⟨rfl, hb⟩
  refine ⟨_, rfl, _, _, _, [], p0 ++ p1, [], hW', ?_, ?_, ?_, hb.frame _, fun h => by cases h⟩
  · exact trodAll_mk1 (shut_bool Tryz.underlying4 true)
  · have hh := trodAll_cons_mk (Below.trod laidOutK (by kernel_rfl) (of_decide_eq_true (by kernel_rfl)) k0 hb q0) (trodAll_cons_mk (Below.trod laidOutK (by kernel_rfl) (of_decide_eq_true (by kernel_rfl)) k1 hb q1) trodAll_mk0)
    simp only [List.append_nil] at hh
    exact hh
  · rfl
theorem keepFalls_holds : Rows.KeepFallsSaid :=
  OpenClaim.holds_of_cond 3 Tryz.f3 rfl rfl rfl rfl rfl rfl rfl ⟨rfl, rfl, rfl, rfl, rfl⟩ rfl rfl rfl rfl rfl (by kernel_rfl) Tryz.func3 (by kernel_rfl)
    (of_decide_eq_true (by kernel_rfl)) (by unfold Func.isWrapper; first | (rw [if_pos (by decide +kernel)]; kernel_rfl) | (rw [if_neg (by decide +kernel)]; exact ⟨rfl, rfl⟩))
    (fun os started H enc _ F0 => by rw [OpenClaim.pre_eq_preRow]; exact keepFalls_lifted os started H enc F0)
theorem keepFalls_card : Rows.KeepFallsCardSaid :=
  Claim7.holds_tied_plain_at .later [] [.data, .data, .pinned] true (true, "b30fea3b33d41b4cd426c0419030b0438194f5e335ffe986d1ebc3becada9a68") true
    keepFalls_holds (fun _ h => by cases h) (by kernel_rfl) (fun _ h => by cases h) keepFalls_row_tie rfl ⟨rfl, rfl⟩ (by kernel_rfl) rfl
    (fun f fn hf hfn => by
      obtain rfl : f = 3 := Option.some.inj (hf.symm.trans (by kernel_rfl))
      obtain rfl : fn = Tryz.f3 := (Option.some.inj (Tryz.func3.symm.trans hfn)).symm
      exact ⟨by kernel_rfl, fun j t ht => by
        rw [Tryz.params3] at ht
        have hm : t ∈ [22, 23] := by simpa using Array.mem_of_getElem? ht
        have hall : ([22, 23].all fun u => !Tryz.prog.wantsStandIn u) = true := by kernel_rfl
        exact (show Tryz.prog.wantsStandIn t = false by simpa using List.all_eq_true.1 hall t hm)⟩)
    (by kernel_rfl)
#print axioms keepFalls_card
end Go.Proofs.YtknmmlfdlfioiaaGreatDoor
