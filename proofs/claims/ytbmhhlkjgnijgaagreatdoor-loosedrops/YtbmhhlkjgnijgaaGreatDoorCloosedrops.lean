/- A file that is taken away is gone, for sure when that is settled; what was not there, or is no id, is told so: the law LooseDrops returns true for every row of texts and every number; the listed variables of the library and of the project are as the program's text lays them. -/
import Derived.Test.YtbmhhlkjgnijgaaGreatDoorLoAll
import Derived.Carry
import Derived.Test.YtbmhhlkjgnijgaaGreatDoorTie
import Derived.Test.YtbmhhlkjgnijgaaGreatDoorCards
import Derived.ProofKit
import Derived.OpenShut
import Derived.Stop.Joined
import Derived.JoinedCond
import Derived.Lay
import Derived.SizedLaws
import Derived.Deep.DeepHandedRow
import Derived.Deep.DeepWitnessRowRef
import Derived.LaidMore
import Derived.LaidSub
import Derived.Stop.LaidErr
import Derived.Lib.LaidTab
namespace Go.Proofs.YtbmhhlkjgnijgaaGreatDoor
open Go.ChangeShapes Go.WideShapes Go.ChangeAt Go.WideMaps Go.WideElems Go.RowKit
open Go.ChangeMaps (open_string shut_string)
theorem laidOutK : laidOutB Tryz.prog = true := by kernel_rfl
theorem ownK : ownKnob Tryz.prog.godebug = none := by kernel_rfl
abbrev laidK : List (String × DataW Unit) := Rows.looseDropsRow.laid
theorem wit_met (os : Os) (args : Array Value) : laidMet Tryz.prog laidK ((World.laidAll Tryz.prog os laidK).forCall (fun _ _ => 0) ⟨#[], args, []⟩).memory := laidMet_laidAll _ (by kernel_rfl) (by kernel_rfl)
theorem max_at {W : World} (h : W.ShapedOpen Tryz.prog) : Ob.MaxAt W :=
  cell_of_shapedOpen_int (zero := #[.int .i64 0]) (t := 3) h (of_decide_eq_true (by kernel_rfl)) (by kernel_rfl) rfl (by kernel_rfl) (by kernel_rfl) Tryz.underlying3
theorem gTab : Tryz.prog.globalNamed Cb.tabName = some 6 := by kernel_rfl
theorem tTab : (Tryz.prog.globals[6]?).map (·.type) = some 271 := by kernel_rfl
theorem gES : Tryz.prog.globalNamed "strconv.ErrSyntax" = some 4 := by kernel_rfl
theorem tES : (Tryz.prog.globals[4]?).map (·.type) = some 164 := by kernel_rfl
theorem gER : Tryz.prog.globalNamed "strconv.ErrRange" = some 5 := by kernel_rfl
theorem tER : (Tryz.prog.globals[5]?).map (·.type) = some 164 := by kernel_rfl
theorem cellsE : Tryz.prog.cellsOf 269 = 1 := by kernel_rfl
theorem cells9 : Tryz.prog.cellsOf 9 = 1 := by kernel_rfl
theorem star : "*" ++ "errors.errorString" = "*errors.errorString" := by decide
theorem rowE (u : TypeId) (h : Tryz.prog.typeName? 3 u = some "*errors.errorString") : u = 267 :=
  typeName_ptr_named (nm := "errors.errorString") (by rw [star]; kernel_rfl) (by kernel_rfl) (by decide) u (by rw [star]; exact h)
def rwName : String := (Rows.looseFallsRow.named.getD 8 "")
theorem onlyTab : laidK.filter (fun x => x.1 == Cb.tabName) = [(Cb.tabName, Lib.tabData .u64 Lib.pow10Tab)] := by kernel_rfl
theorem onlyES : laidK.filter (fun x => x.1 == "strconv.ErrSyntax") = [("strconv.ErrSyntax", Rows.laid_strconv_ErrSyntax)] := by kernel_rfl
theorem onlyER : laidK.filter (fun x => x.1 == "strconv.ErrRange") = [("strconv.ErrRange", Rows.laid_strconv_ErrRange)] := by kernel_rfl
theorem onlyRW : laidK.filter (fun x => x.1 == rwName) = [(rwName, Rows.laid_pollard_sum_roundWords)] := by kernel_rfl
theorem plainK (W : World) (h : laidMetH Tryz.prog laidK W) : laidMet Tryz.prog laidK W := by
  rw [MakeChecks.laidMetH_plain _ _ _ (by kernel_rfl)] at h
  exact h
theorem tab_of_laid {W : World} (h : laidMetH Tryz.prog laidK W) : Cb.Tab W := by
  have h1 := (plainK W h).filter (fun x => x.1 == Cb.tabName)
  rw [onlyTab] at h1
  exact Lib.tabIs_of_head gTab tTab Tryz.underlying271 Tryz.underlying40 (by kernel_rfl) (by kernel_rfl) h1
theorem errs_of_laid {W : World} (h : laidMetH Tryz.prog laidK W) : Cb.Errs W := by
  have h1 := (plainK W h).filter (fun x => x.1 == "strconv.ErrSyntax")
  rw [onlyES] at h1
  have h2 := (plainK W h).filter (fun x => x.1 == "strconv.ErrRange")
  rw [onlyER] at h2
  obtain ⟨a0, s0, hv0, -, -, -⟩ := laid_sentinel h1 gES tES Tryz.underlying164 rowE Tryz.underlying267 Tryz.underlying269 rfl rfl Tryz.underlying9 cellsE cells9
  obtain ⟨a1, s1, hv1, -, -, -⟩ := laid_sentinel h2 gER tER Tryz.underlying164 rowE Tryz.underlying267 Tryz.underlying269 rfl rfl Tryz.underlying9 cellsE cells9
  exact ⟨⟨_, _, hv0⟩, ⟨_, _, hv1⟩⟩
theorem tRound : (Tryz.prog.globals[1]?).map (·.type) = some 117 := by kernel_rfl
theorem tab_lit : (Rows.laid_pollard_sum_roundWords : DataW Unit) = Lib.tabData .u32 (Sa.Sha.salts.map fun n : Nat => (n : Int)) := by kernel_rfl
theorem k_of_laid {W : World} (h : laidMetH Tryz.prog laidK W) : Sa.KAt W := by
  have h1 := (plainK W h).filter (fun x => x.1 == rwName)
  rw [onlyRW] at h1
  obtain ⟨ps, ⟨g0, t0, cs0, f0, p0, q0, hg0, ht0, hv0, hd0, _, _⟩, _⟩ := h1
  obtain rfl : g0 = 1 := Option.some.inj (hg0.symm.trans (by kernel_rfl))
  obtain rfl := Option.some.inj (tRound.symm.trans ht0)
  rw [tab_lit] at hd0
  have hc := Lib.cells_of_tab Tryz.underlying117 Tryz.underlying115 (by kernel_rfl) (by kernel_rfl) hd0
  intro i hi
  rw [World.var?_cell hg0 hv0 i]
  have e : cs0 = (((Sa.Sha.salts.map fun n : Nat => (n : Int)).map fun z => Value.int .u32 z)).toArray := by rw [← hc]
  rw [e]
  have all : ∀ j, j < 64 → ((((Sa.Sha.salts.map fun n : Nat => (n : Int)).map fun z => Value.int .u32 z)).toArray)[j]? = some (.int .u32 ((Sa.Sha.salt j).toNat : Int)) := by
    intro j hj
    have hl : j < Sa.Sha.salts.length := hj
    simp only [List.getElem?_toArray, List.getElem?_map, List.getElem?_eq_getElem hl, Option.map_some]
    congr 2
    have hall : ∀ k : Fin 64, Sa.Sha.salts.getD k.val 0 = (Sa.Sha.salt k.val).toNat := by decide +kernel
    have := hall ⟨j, hj⟩
    simp only [List.getD, List.getElem?_eq_getElem hl, Option.getD_some] at this
    rw [this]
  exact all i hi
theorem ok_at {W : World} (h : laidMetH Tryz.prog laidK W) (hs : W.ShapedOpen Tryz.prog) : Ob.Ok W := ⟨max_at hs, tab_of_laid h, errs_of_laid h, k_of_laid h⟩
theorem wit_row (os : Os) {H : Type} (enc : TypeId × Value → H) :
    (OpenSpec.ofChange Rows.looseDropsSpec).preRow enc Tryz.prog Tryz.f4 [] false laidK ((World.laidAll Tryz.prog os laidK).forCall (fun _ _ => 0) ⟨#[], #[.slice none 0 0, .int .i64 0], []⟩).memory #[.slice none 0 0, .int .i64 0] := by
  have hw : (DataW.whole enc Tryz.prog ((World.laidAll Tryz.prog os laidK).forCall (fun _ _ => 0) ⟨#[], #[.slice none 0 0, .int .i64 0], []⟩).memory Tryz.f4.params.toList (OpenSpec.ofChange Rows.looseDropsSpec).vars false #[Value.slice none 0 0, Value.int .i64 0].toList 8).map (fun x => (x.1, x.2.1)) =
      some ([.nil, .lit (.int .i64 0)], []) := by kernel_rfl
  obtain ⟨⟨x1, x2, x3⟩, hx, hx1⟩ := Option.map_eq_some_iff.1 hw
  simp only [Prod.mk.injEq] at hx1
  obtain ⟨rfl, rfl⟩ := hx1
  exact OpenSpec.preRow_of_cond 8 hx (by kernel_rfl) (fun k hk => by cases hk) (by kernel_rfl) (wit_met os _)
set_option maxRecDepth 100000 in
set_option maxHeartbeats 2000000 in
theorem looseDrops_lifted (os : Os) (started : os.Started) (H : Type) (enc : TypeId × Value → H) (F : Stop.Interp) :
    ReturnsInHanded {} Tryz.checked os 4 .any ((OpenSpec.ofChange Rows.looseDropsSpec).preRow enc Tryz.prog Tryz.f4 [] false laidK) (((OpenSpec.ofChange Rows.looseDropsSpec).at F).post enc Tryz.prog Tryz.f4 false true false false) := by
  refine returnsInHanded_of_row (C := Tryz.checked) (s := OpenSpec.ofChange Rows.looseDropsSpec) ownK started (by kernel_rfl) Tryz.func4
    (witness_row_atRef (enc := enc) (C := Tryz.checked) false (World.laidAll Tryz.prog os laidK) #[.slice none 0 0, .int .i64 0] rfl (by kernel_rfl) (by kernel_rfl) (by kernel_rfl) (wit_row os enc)) ?_
  intro W base args ds gs before hval0 hW _ _ _ hL hsh _
  have hval : ∀ (j : Nat) t v, Tryz.f4.params[j]? = some t → args[j]? = some v → Value.okWide Tryz.prog W .any base t v := hval0
  have hW' := hW
  obtain ⟨p, q, hA0, hV, rfl, hfz, hnd⟩ := hW
  have hA : DataW.TrodAll enc Tryz.prog W 0 (fun _ => true) true Tryz.f4.params.toList args.toList ds p := hA0
  rw [Tryz.params4] at hA hval
  obtain ⟨v0, vs0, d0, ds0, p0, q0, hargs, rfl, rfl, h0, r0⟩ := trodAll_cons hA
  obtain ⟨v1, vs1, d1, ds1, p1, q1, rfl, rfl, rfl, h1, r1⟩ := trodAll_cons r0
  obtain ⟨rfl, rfl, rfl⟩ := trodAll_nil r1
  obtain rfl : args = #[v0, v1] := by cases args; simp_all
  obtain ⟨rfl, rfl⟩ := trodVars_none hV
  have k0 := h0
  obtain ⟨l0, t0, q0⟩ := Lo.open_texts_arg (hval 0 22 v0 rfl rfl) h0
  obtain ⟨a1, rfl, rfl, rfl, w1⟩ := open_int Tryz.underlying3 (hval 1 3 v1 rfl rfl) h1
  clear hA0 hval0
  simp only [List.append_nil] at hW'
  refine (Lo.drops_law l0 v0 a1 W (ok_at hL hsh) t0).mono ?_
  rintro e W' ⟨rfl, hb⟩
  refine ⟨_, rfl, _, _, _, [], p0, [], hW', ?_, ?_, ?_, hb.frame _, fun h => by cases h⟩
  · exact trodAll_mk1 (shut_bool Tryz.underlying4 true)
  · have h2 := trodAll_cons_mk (Below.trod laidOutK (by kernel_rfl) (of_decide_eq_true (by kernel_rfl)) k0 hb q0) (trodAll_cons_mk (shut_int Tryz.underlying3 w1) trodAll_mk0)
    simp only [List.append_nil] at h2
    exact h2
  · rfl
theorem looseDrops_holds : Rows.LooseDropsSaid :=
  OpenClaim.holds_of_cond 4 Tryz.f4 rfl rfl rfl rfl rfl rfl rfl ⟨rfl, rfl, rfl, rfl, rfl⟩ rfl rfl rfl rfl rfl (by kernel_rfl) Tryz.func4 (by kernel_rfl)
    (of_decide_eq_true (by kernel_rfl)) (by unfold Func.isWrapper; first | (rw [if_pos (by decide +kernel)]; kernel_rfl) | (rw [if_neg (by decide +kernel)]; exact ⟨rfl, rfl⟩))
    (fun os started H enc _ F0 => by rw [OpenClaim.pre_eq_preRow]; exact looseDrops_lifted os started H enc F0)
theorem looseDrops_card : Rows.LooseDropsCardSaid :=
  Claim7.holds_tied_plain_at .later [] [.data, .data, .data, .data, .data, .sentinel, .sentinel, .pinned] true (true, "9ef7c9633015081cbff295292b9d1ae4db30125cf6cb356adf7149fe1b6c2156") true
    looseDrops_holds (fun _ h => by cases h) (by kernel_rfl) (fun _ h => by cases h) looseDrops_row_tie rfl ⟨rfl, rfl⟩ (by kernel_rfl) rfl
    (fun f fn hf hfn => by
      obtain rfl : f = 4 := Option.some.inj (hf.symm.trans (by kernel_rfl))
      obtain rfl : fn = Tryz.f4 := (Option.some.inj (Tryz.func4.symm.trans hfn)).symm
      exact ⟨by kernel_rfl, fun j t ht => by
        rw [Tryz.params4] at ht
        have hm : t ∈ [22, 3] := by simpa using Array.mem_of_getElem? ht
        have hall : ([22, 3].all fun u => !Tryz.prog.wantsStandIn u) = true := by kernel_rfl
        exact (show Tryz.prog.wantsStandIn t = false by simpa using List.all_eq_true.1 hall t hm)⟩)
    (by kernel_rfl)
#print axioms looseDrops_card
end Go.Proofs.YtbmhhlkjgnijgaaGreatDoor
