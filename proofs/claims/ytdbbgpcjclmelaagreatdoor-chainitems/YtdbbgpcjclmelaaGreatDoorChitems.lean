/- Objects are items as the document has them, whatever bases are chosen: the tied card of ChainItems: the law returns true for every row of texts and every row of numbers; the listed variables are as they were laid; no other condition. -/
import Derived.Test.YtdbbgpcjclmelaaGreatDoorChCv
import Derived.Test.YtdbbgpcjclmelaaGreatDoorShelf
import Derived.Test.YtdbbgpcjclmelaaGreatDoorTie
import Derived.Test.YtdbbgpcjclmelaaGreatDoorCards
import Derived.ProofKit
import Derived.OpenShut
import Derived.Stop.Joined
import Derived.JoinedCond
import Derived.Lay
import Derived.SizedLaws
import Derived.Deep.DeepHandedRow
import Derived.Deep.DeepWitnessRowRef
import Derived.LaidMore
import Derived.LaidSub
import Derived.Stop.LaidErr
import Derived.Lib.LaidTab
namespace Go.Proofs.YtdbbgpcjclmelaaGreatDoor
open Go.ChangeShapes Go.WideShapes Go.ChangeAt Go.WideMaps Go.WideElems Go.RowKit
open Go.ChangeMaps (open_string shut_string)
theorem ownK : ownKnob Tryz.prog.godebug = none := by kernel_rfl
abbrev laidK : List (String × DataW Unit) := Rows.chainItemsRow.laid
theorem wit_met (os : Os) (args : Array Value) : laidMet Tryz.prog laidK ((World.laidAll Tryz.prog os laidK).forCall (fun _ _ => 0) ⟨#[], args, []⟩).memory := laidMet_laidAll _ (by kernel_rfl) (by kernel_rfl)
theorem max_at {W : World} (h : W.ShapedOpen Tryz.prog) : Ob.MaxAt W :=
  cell_of_shapedOpen_int (zero := #[.int .i64 0]) (t := 3) h (of_decide_eq_true (by kernel_rfl)) (by kernel_rfl) rfl (by kernel_rfl) (by kernel_rfl) Tryz.underlying3
theorem gTab : Tryz.prog.globalNamed Cb.tabName = some 4 := by kernel_rfl
theorem tTab : (Tryz.prog.globals[4]?).map (·.type) = some 259 := by kernel_rfl
theorem gES : Tryz.prog.globalNamed "strconv.ErrSyntax" = some 2 := by kernel_rfl
theorem tES : (Tryz.prog.globals[2]?).map (·.type) = some 142 := by kernel_rfl
theorem gER : Tryz.prog.globalNamed "strconv.ErrRange" = some 3 := by kernel_rfl
theorem tER : (Tryz.prog.globals[3]?).map (·.type) = some 142 := by kernel_rfl
theorem cellsE : Tryz.prog.cellsOf 257 = 1 := by kernel_rfl
theorem cells9 : Tryz.prog.cellsOf 9 = 1 := by kernel_rfl
theorem star : "*" ++ "errors.errorString" = "*errors.errorString" := by decide
theorem rowE (u : TypeId) (h : Tryz.prog.typeName? 3 u = some "*errors.errorString") : u = 255 :=
  typeName_ptr_named (nm := "errors.errorString") (by rw [star]; kernel_rfl) (by kernel_rfl) (by decide) u (by rw [star]; exact h)
def rwName : String := (Rows.chainItemsRow.named.getD 0 "")
theorem onlyTab : laidK.filter (fun x => x.1 == Cb.tabName) = [(Cb.tabName, Lib.tabData .u64 Lib.pow10Tab)] := by kernel_rfl
theorem onlyES : laidK.filter (fun x => x.1 == "strconv.ErrSyntax") = [("strconv.ErrSyntax", Rows.laid_strconv_ErrSyntax)] := by kernel_rfl
theorem onlyER : laidK.filter (fun x => x.1 == "strconv.ErrRange") = [("strconv.ErrRange", Rows.laid_strconv_ErrRange)] := by kernel_rfl
theorem onlyRW : laidK.filter (fun x => x.1 == rwName) = [(rwName, Rows.laid_pollard_sum_roundWords)] := by kernel_rfl
theorem plainK (W : World) (h : laidMetH Tryz.prog laidK W) : laidMet Tryz.prog laidK W := by
  rw [MakeChecks.laidMetH_plain _ _ _ (by kernel_rfl)] at h
  exact h
theorem tab_of_laid {W : World} (h : laidMetH Tryz.prog laidK W) : Cb.Tab W := by
  have h1 := (plainK W h).filter (fun x => x.1 == Cb.tabName)
  rw [onlyTab] at h1
  exact Lib.tabIs_of_head gTab tTab Tryz.underlying259 Tryz.underlying57 (by kernel_rfl) (by kernel_rfl) h1
theorem errs_of_laid {W : World} (h : laidMetH Tryz.prog laidK W) : Cb.Errs W := by
  have h1 := (plainK W h).filter (fun x => x.1 == "strconv.ErrSyntax")
  rw [onlyES] at h1
  have h2 := (plainK W h).filter (fun x => x.1 == "strconv.ErrRange")
  rw [onlyER] at h2
  obtain ⟨a0, s0, hv0, -, -, -⟩ := laid_sentinel h1 gES tES Tryz.underlying142 rowE Tryz.underlying255 Tryz.underlying257 rfl rfl Tryz.underlying9 cellsE cells9
  obtain ⟨a1, s1, hv1, -, -, -⟩ := laid_sentinel h2 gER tER Tryz.underlying142 rowE Tryz.underlying255 Tryz.underlying257 rfl rfl Tryz.underlying9 cellsE cells9
  exact ⟨⟨_, _, hv0⟩, ⟨_, _, hv1⟩⟩
theorem tRound : (Tryz.prog.globals[0]?).map (·.type) = some 95 := by kernel_rfl
theorem tab_lit : (Rows.laid_pollard_sum_roundWords : DataW Unit) = Lib.tabData .u32 (Sa.Sha.salts.map fun n : Nat => (n : Int)) := by kernel_rfl
theorem k_of_laid {W : World} (h : laidMetH Tryz.prog laidK W) : Sa.KAt W := by
  have h1 := (plainK W h).filter (fun x => x.1 == rwName)
  rw [onlyRW] at h1
  obtain ⟨ps, ⟨g0, t0, cs0, f0, p0, q0, hg0, ht0, hv0, hd0, _, _⟩, _⟩ := h1
  obtain rfl : g0 = 0 := Option.some.inj (hg0.symm.trans (by kernel_rfl))
  obtain rfl := Option.some.inj (tRound.symm.trans ht0)
  rw [tab_lit] at hd0
  have hc := Lib.cells_of_tab Tryz.underlying95 Tryz.underlying93 (by kernel_rfl) (by kernel_rfl) hd0
  intro i hi
  rw [World.var?_cell hg0 hv0 i]
  have e : cs0 = (((Sa.Sha.salts.map fun n : Nat => (n : Int)).map fun z => Value.int .u32 z)).toArray := by rw [← hc]
  rw [e]
  have all : ∀ j, j < 64 → ((((Sa.Sha.salts.map fun n : Nat => (n : Int)).map fun z => Value.int .u32 z)).toArray)[j]? = some (.int .u32 ((Sa.Sha.salt j).toNat : Int)) := by
    intro j hj
    have hl : j < Sa.Sha.salts.length := hj
    simp only [List.getElem?_toArray, List.getElem?_map, List.getElem?_eq_getElem hl, Option.map_some]
    congr 2
    have hall : ∀ k : Fin 64, Sa.Sha.salts.getD k.val 0 = (Sa.Sha.salt k.val).toNat := by decide +kernel
    have := hall ⟨j, hj⟩
    simp only [List.getD, List.getElem?_eq_getElem hl, Option.getD_some] at this
    rw [this]
  exact all i hi
theorem ok_at {W : World} (h : laidMetH Tryz.prog laidK W) (hs : W.ShapedOpen Tryz.prog) : Ob.Ok W := ⟨max_at hs, tab_of_laid h, errs_of_laid h, k_of_laid h⟩
theorem laidOutK : laidOutB Tryz.prog = true := by kernel_rfl
theorem wit_row (os : Os) {H : Type} (enc : TypeId × Value → H) :
    (OpenSpec.ofChange Rows.chainItemsSpec).preRow enc Tryz.prog Tryz.f3 [] false laidK ((World.laidAll Tryz.prog os laidK).forCall (fun _ _ => 0) ⟨#[], #[.slice none 0 0, .slice none 0 0], []⟩).memory #[.slice none 0 0, .slice none 0 0] := by
  have hw : (DataW.whole enc Tryz.prog ((World.laidAll Tryz.prog os laidK).forCall (fun _ _ => 0) ⟨#[], #[.slice none 0 0, .slice none 0 0], []⟩).memory Tryz.f3.params.toList (OpenSpec.ofChange Rows.chainItemsSpec).vars false #[Value.slice none 0 0, Value.slice none 0 0].toList 8).map (fun x => (x.1, x.2.1)) =
      some ([.nil, .nil], []) := by kernel_rfl
  obtain ⟨⟨x1, x2, x3⟩, hx, hx1⟩ := Option.map_eq_some_iff.1 hw
  simp only [Prod.mk.injEq] at hx1
  obtain ⟨rfl, rfl⟩ := hx1
  exact OpenSpec.preRow_of_cond 8 hx (by kernel_rfl) (fun k hk => by cases hk) (by kernel_rfl) (wit_met os _)
set_option maxRecDepth 100000 in
set_option maxHeartbeats 2000000 in
theorem chainItems_lifted (os : Os) (started : os.Started) (H : Type) (enc : TypeId × Value → H) (F : Stop.Interp) :
    ReturnsInHanded {} Tryz.checked os 3 .any ((OpenSpec.ofChange Rows.chainItemsSpec).preRow enc Tryz.prog Tryz.f3 [] false laidK) (((OpenSpec.ofChange Rows.chainItemsSpec).at F).post enc Tryz.prog Tryz.f3 false true false false) := by
  refine returnsInHanded_of_row (C := Tryz.checked) (s := OpenSpec.ofChange Rows.chainItemsSpec) ownK started (by kernel_rfl) Tryz.func3
    (witness_row_atRef (enc := enc) (C := Tryz.checked) false (World.laidAll Tryz.prog os laidK) #[.slice none 0 0, .slice none 0 0] rfl (by kernel_rfl) (by kernel_rfl) (by kernel_rfl) (wit_row os enc)) ?_
  intro W base args ds gs before hval0 hW _ _ _ hL hsh _
  have hval : ∀ (j : Nat) t v, Tryz.f3.params[j]? = some t → args[j]? = some v → Value.okWide Tryz.prog W .any base t v := hval0
  have hW' := hW
  obtain ⟨p, q, hA0, hV, rfl, hfz, hnd⟩ := hW
  have hA : DataW.TrodAll enc Tryz.prog W 0 (fun _ => true) true Tryz.f3.params.toList args.toList ds p := hA0
  rw [Tryz.params3] at hA hval
  obtain ⟨v0, vs0, d0, ds0, p0, q0, hargs, rfl, rfl, h0, r0⟩ := trodAll_cons hA
  obtain ⟨v1, vs1, d1, ds1, p1, q1, rfl, rfl, rfl, h1, r1⟩ := trodAll_cons r0
  obtain ⟨rfl, rfl, rfl⟩ := trodAll_nil r1
  obtain rfl : args = #[v0, v1] := by cases args; simp_all
  obtain ⟨rfl, rfl⟩ := trodVars_none hV
  have k0 := h0
  obtain ⟨l0, t0, q0⟩ := Ch.open_texts_arg (hval 0 22 v0 rfl rfl) h0
  have k1 := h1
  obtain ⟨l1, t1, q1⟩ := Ch.open_nums_arg (hval 1 23 v1 rfl rfl) h1
  clear hA0 hval0
  simp only [List.append_nil] at hW'
  refine (Ch.chainItems_law v0 l0 v1 l1 W t0 t1 (ok_at hL hsh)).mono ?_
  rintro e W' ⟨rfl, hb⟩
  refine ⟨_, rfl, _, _, _, [], p0 ++ p1, [], hW', ?_, ?_, ?_, hb.frame _, fun h => by cases h⟩
  · exact trodAll_mk1 (shut_bool Tryz.underlying4 true)
  · have hh := trodAll_cons_mk (Below.trod laidOutK (by kernel_rfl) (of_decide_eq_true (by kernel_rfl)) k0 hb q0) (trodAll_cons_mk (Below.trod laidOutK (by kernel_rfl) (of_decide_eq_true (by kernel_rfl)) k1 hb q1) trodAll_mk0)
    simp only [List.append_nil] at hh
    exact hh
  · rfl
theorem chainItems_holds : Rows.ChainItemsSaid :=
  OpenClaim.holds_of_cond 3 Tryz.f3 rfl rfl rfl rfl rfl rfl rfl ⟨rfl, rfl, rfl, rfl, rfl⟩ rfl rfl rfl rfl rfl (by kernel_rfl) Tryz.func3 (by kernel_rfl)
    (of_decide_eq_true (by kernel_rfl)) (by unfold Func.isWrapper; first | (rw [if_pos (by decide +kernel)]; kernel_rfl) | (rw [if_neg (by decide +kernel)]; exact ⟨rfl, rfl⟩))
    (fun os started H enc _ F0 => by rw [OpenClaim.pre_eq_preRow]; exact chainItems_lifted os started H enc F0)
theorem chainItems_card : Rows.ChainItemsCardSaid :=
  Claim7.holds_tied_plain_at .later [] [.data, .data, .data, .data, .data, .sentinel, .sentinel, .pinned] true (true, "61ed2b895f3964bc7be419bd6ce645c4fa31e4101d68c0d79d40ed830eb5571c") true
    chainItems_holds (fun _ h => by cases h) (by kernel_rfl) (fun _ h => by cases h) chainItems_row_tie rfl ⟨rfl, rfl⟩ (by kernel_rfl) rfl
    (fun f fn hf hfn => by
      obtain rfl : f = 3 := Option.some.inj (hf.symm.trans (by kernel_rfl))
      obtain rfl : fn = Tryz.f3 := (Option.some.inj (Tryz.func3.symm.trans hfn)).symm
      exact ⟨by kernel_rfl, fun j t ht => by
        rw [Tryz.params3] at ht
        have hm : t ∈ [22, 23] := by simpa using Array.mem_of_getElem? ht
        have hall : ([22, 23].all fun u => !Tryz.prog.wantsStandIn u) = true := by kernel_rfl
        exact (show Tryz.prog.wantsStandIn t = false by simpa using List.all_eq_true.1 hall t hm)⟩)
    (by kernel_rfl)
#print axioms chainItems_card
end Go.Proofs.YtdbbgpcjclmelaaGreatDoor
