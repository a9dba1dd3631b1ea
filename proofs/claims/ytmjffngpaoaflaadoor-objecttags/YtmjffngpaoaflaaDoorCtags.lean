/- Which tags may be, or why not; those that may have the document's bytes, and are read again: the law ObjectTags (texts cut at 5000 bytes, as the law does) returns true for every tag; a tied card: six variables are listed (the table of the rounds' words, three tables and two errors of Go's library). -/
import Derived.Test.YtmjffngpaoaflaaDoorLtag
import Derived.Lib.SmallJoins
import Derived.Test.YtmjffngpaoaflaaDoorTie
import Derived.Test.YtmjffngpaoaflaaDoorCards
import Derived.ProofKit
import Derived.OpenShut
import Derived.Stop.Joined
import Derived.JoinedCond
import Derived.Lay
import Derived.SizedLaws
import Derived.Deep.DeepHandedRow
import Derived.Deep.DeepWitnessRowRef
import Derived.LaidMore
import Derived.LaidSub
import Derived.Stop.LaidErr
import Derived.Lib.LaidTab
namespace Go.Proofs.YtmjffngpaoaflaaDoor
open Go.ChangeShapes Go.WideShapes Go.ChangeAt Go.WideMaps Go.WideElems Go.RowKit
open Go.ChangeMaps (open_string shut_string)
theorem ownK : ownKnob Tryd.prog.godebug = none := by kernel_rfl
abbrev laidK : List (String × DataW Unit) := Rows.objectTagsRow.laid
theorem wit_met (os : Os) (args : Array Value) : laidMet Tryd.prog laidK ((World.laidAll Tryd.prog os laidK).forCall (fun _ _ => 0) ⟨#[], args, []⟩).memory := laidMet_laidAll _ (by kernel_rfl) (by kernel_rfl)
theorem max_at {W : World} (h : W.ShapedOpen Tryd.prog) : Ob.MaxAt W :=
  cell_of_shapedOpen_int (zero := #[.int .i64 0]) (t := 3) h (of_decide_eq_true (by kernel_rfl)) (by kernel_rfl) rfl (by kernel_rfl) (by kernel_rfl) Tryd.underlying3
theorem gTab : Tryd.prog.globalNamed Cb.tabName = some 1 := by kernel_rfl
theorem tTab : (Tryd.prog.globals[1]?).map (·.type) = some 101 := by kernel_rfl
theorem gES : Tryd.prog.globalNamed "strconv.ErrSyntax" = some 3 := by kernel_rfl
theorem tES : (Tryd.prog.globals[3]?).map (·.type) = some 75 := by kernel_rfl
theorem gER : Tryd.prog.globalNamed "strconv.ErrRange" = some 4 := by kernel_rfl
theorem tER : (Tryd.prog.globals[4]?).map (·.type) = some 75 := by kernel_rfl
theorem cellsE : Tryd.prog.cellsOf 118 = 1 := by kernel_rfl
theorem cells9 : Tryd.prog.cellsOf 9 = 1 := by kernel_rfl
theorem star : "*" ++ "errors.errorString" = "*errors.errorString" := by decide
theorem rowE (u : TypeId) (h : Tryd.prog.typeName? 3 u = some "*errors.errorString") : u = 116 :=
  typeName_ptr_named (nm := "errors.errorString") (by rw [star]; kernel_rfl) (by kernel_rfl) (by decide) u (by rw [star]; exact h)
def rwName : String := (Rows.objectRawsRow.named.getD 6 "")
theorem onlyTab : laidK.filter (fun x => x.1 == Cb.tabName) = [(Cb.tabName, Lib.tabData .u64 Lib.pow10Tab)] := by kernel_rfl
theorem onlyES : laidK.filter (fun x => x.1 == "strconv.ErrSyntax") = [("strconv.ErrSyntax", Rows.laid_strconv_ErrSyntax)] := by kernel_rfl
theorem onlyER : laidK.filter (fun x => x.1 == "strconv.ErrRange") = [("strconv.ErrRange", Rows.laid_strconv_ErrRange)] := by kernel_rfl
theorem onlyRW : laidK.filter (fun x => x.1 == rwName) = [(rwName, Rows.laid_pollard_sum_roundWords)] := by kernel_rfl
theorem plainK (W : World) (h : laidMetH Tryd.prog laidK W) : laidMet Tryd.prog laidK W := by
  rw [MakeChecks.laidMetH_plain _ _ _ (by kernel_rfl)] at h
  exact h
theorem tab_of_laid {W : World} (h : laidMetH Tryd.prog laidK W) : Cb.Tab W := by
  have h1 := (plainK W h).filter (fun x => x.1 == Cb.tabName)
  rw [onlyTab] at h1
  exact Lib.tabIs_of_head gTab tTab Tryd.underlying101 Tryd.underlying43 (by kernel_rfl) (by kernel_rfl) h1
theorem errs_of_laid {W : World} (h : laidMetH Tryd.prog laidK W) : Cb.Errs W := by
  have h1 := (plainK W h).filter (fun x => x.1 == "strconv.ErrSyntax")
  rw [onlyES] at h1
  have h2 := (plainK W h).filter (fun x => x.1 == "strconv.ErrRange")
  rw [onlyER] at h2
  obtain ⟨a0, s0, hv0, -, -, -⟩ := laid_sentinel h1 gES tES Tryd.underlying75 rowE Tryd.underlying116 Tryd.underlying118 rfl rfl Tryd.underlying9 cellsE cells9
  obtain ⟨a1, s1, hv1, -, -, -⟩ := laid_sentinel h2 gER tER Tryd.underlying75 rowE Tryd.underlying116 Tryd.underlying118 rfl rfl Tryd.underlying9 cellsE cells9
  exact ⟨⟨_, _, hv0⟩, ⟨_, _, hv1⟩⟩
theorem tRound : (Tryd.prog.globals[0]?).map (·.type) = some 64 := by kernel_rfl
theorem tab_lit : (Rows.laid_pollard_sum_roundWords : DataW Unit) = Lib.tabData .u32 (Sa.Sha.salts.map fun n : Nat => (n : Int)) := by kernel_rfl
theorem k_of_laid {W : World} (h : laidMetH Tryd.prog laidK W) : Sa.KAt W := by
  have h1 := (plainK W h).filter (fun x => x.1 == rwName)
  rw [onlyRW] at h1
  obtain ⟨ps, ⟨g0, t0, cs0, f0, p0, q0, hg0, ht0, hv0, hd0, _, _⟩, _⟩ := h1
  obtain rfl : g0 = 0 := Option.some.inj (hg0.symm.trans (by kernel_rfl))
  obtain rfl := Option.some.inj (tRound.symm.trans ht0)
  rw [tab_lit] at hd0
  have hc := Lib.cells_of_tab Tryd.underlying64 Tryd.underlying62 (by kernel_rfl) (by kernel_rfl) hd0
  intro i hi
  rw [World.var?_cell hg0 hv0 i]
  have e : cs0 = (((Sa.Sha.salts.map fun n : Nat => (n : Int)).map fun z => Value.int .u32 z)).toArray := by rw [← hc]
  rw [e]
  have all : ∀ j, j < 64 → ((((Sa.Sha.salts.map fun n : Nat => (n : Int)).map fun z => Value.int .u32 z)).toArray)[j]? = some (.int .u32 ((Sa.Sha.salt j).toNat : Int)) := by
    intro j hj
    have hl : j < Sa.Sha.salts.length := hj
    simp only [List.getElem?_toArray, List.getElem?_map, List.getElem?_eq_getElem hl, Option.map_some]
    congr 2
    have hall : ∀ k : Fin 64, Sa.Sha.salts.getD k.val 0 = (Sa.Sha.salt k.val).toNat := by decide +kernel
    have := hall ⟨j, hj⟩
    simp only [List.getD, List.getElem?_eq_getElem hl, Option.getD_some] at this
    rw [this]
  exact all i hi
theorem ok_at {W : World} (h : laidMetH Tryd.prog laidK W) (hs : W.ShapedOpen Tryd.prog) : Ob.Ok W := ⟨max_at hs, tab_of_laid h, errs_of_laid h, k_of_laid h⟩
theorem cellsT : Tryd.prog.cellsOf 32 = 4 := by kernel_rfl
theorem wit_row (os : Os) {H : Type} (enc : TypeId × Value → H) :
    (OpenSpec.ofChange Rows.objectTagsSpec).preRow enc Tryd.prog Tryd.f4 [] false laidK ((World.laidAll Tryd.prog os laidK).forCall (fun _ _ => 0) ⟨#[], #[.agg #[.string ⟨#[]⟩, .int .i64 0, .string ⟨#[]⟩, .string ⟨#[]⟩]], []⟩).memory #[.agg #[.string ⟨#[]⟩, .int .i64 0, .string ⟨#[]⟩, .string ⟨#[]⟩]] := by
  have hw : (DataW.whole enc Tryd.prog ((World.laidAll Tryd.prog os laidK).forCall (fun _ _ => 0) ⟨#[], #[.agg #[.string ⟨#[]⟩, .int .i64 0, .string ⟨#[]⟩, .string ⟨#[]⟩]], []⟩).memory Tryd.f4.params.toList (OpenSpec.ofChange Rows.objectTagsSpec).vars false #[Value.agg #[.string ⟨#[]⟩, .int .i64 0, .string ⟨#[]⟩, .string ⟨#[]⟩]].toList 8).map (fun x => (x.1, x.2.1)) =
      some ([.agg [.lit (.string []), .lit (.int .i64 0), .lit (.string []), .lit (.string [])]], []) := by kernel_rfl
  obtain ⟨⟨x1, x2, x3⟩, hx, hx1⟩ := Option.map_eq_some_iff.1 hw
  simp only [Prod.mk.injEq] at hx1
  obtain ⟨rfl, rfl⟩ := hx1
  exact OpenSpec.preRow_of_cond 8 hx (by kernel_rfl) (fun k hk => by cases hk) (by kernel_rfl) (wit_met os _)
set_option maxRecDepth 100000 in
set_option maxHeartbeats 2000000 in
theorem objectTags_lifted (os : Os) (started : os.Started) (H : Type) (enc : TypeId × Value → H) (F : Stop.Interp) :
    ReturnsInHanded {} Tryd.checked os 4 .any ((OpenSpec.ofChange Rows.objectTagsSpec).preRow enc Tryd.prog Tryd.f4 [] false laidK) (((OpenSpec.ofChange Rows.objectTagsSpec).at F).post enc Tryd.prog Tryd.f4 false true false false) := by
  refine returnsInHanded_of_row (C := Tryd.checked) (s := OpenSpec.ofChange Rows.objectTagsSpec) ownK started (by kernel_rfl) Tryd.func4
    (witness_row_atRef (enc := enc) (C := Tryd.checked) false (World.laidAll Tryd.prog os laidK) #[.agg #[.string ⟨#[]⟩, .int .i64 0, .string ⟨#[]⟩, .string ⟨#[]⟩]] rfl (by kernel_rfl) (by kernel_rfl) (by kernel_rfl) (wit_row os enc)) ?_
  intro W base args ds gs before hval0 hW _ _ _ hL hsh _
  have hval : ∀ (j : Nat) t v, Tryd.f4.params[j]? = some t → args[j]? = some v → Value.okWide Tryd.prog W .any base t v := hval0
  have hW' := hW
  obtain ⟨p, q, hA0, hV, rfl, hfz, hnd⟩ := hW
  have hA : DataW.TrodAll enc Tryd.prog W 0 (fun _ => true) true Tryd.f4.params.toList args.toList ds p := hA0
  rw [Tryd.params4] at hA hval
  obtain ⟨v0, d0, rfl, rfl, h0⟩ := trodAll_one hA
  obtain ⟨rfl, rfl⟩ := trodVars_none hV
  obtain ⟨c0, c1, c2, c3, y0, y1, y2, y3, m, rfl, rfl, rfl, hy0, hy1, hy2, hy3⟩ := Joins.open_agg4 Tryd.underlying32 (by kernel_rfl) cellsT (hval 0 32 v0 rfl rfl) h0
  obtain ⟨s0, e0, rfl, u0⟩ := DataW.trod_string Tryd.underlying9 hy0
  obtain ⟨s1, e1, rfl, u1⟩ := DataW.trod_int Tryd.underlying3 hy1
  obtain ⟨s2, e2, rfl, u2⟩ := DataW.trod_string Tryd.underlying9 hy2
  obtain ⟨s3, e3, rfl, u3⟩ := DataW.trod_string Tryd.underlying9 hy3
  simp at e0 e1 e2 e3
  subst e0 e1 e2 e3
  clear hA0 hval0
  simp only [List.append_nil] at hW'
  refine (Ob.tags_law ⟨s0, s1, s2, s3⟩ W (ok_at hL hsh) u0 u2 u3).mono ?_
  rintro e W' ⟨rfl, hb⟩
  refine ⟨_, rfl, _, _, _, [], [], [], hW', ?_, ?_, ?_, hb.frame _, fun h => by cases h⟩
  · exact trodAll_mk1 (shut_bool Tryd.underlying4 true)
  · exact trodAll_mk1 (Joins.shut_agg4 (y0 := (.lit (.string s0.data.toList), [])) (y1 := (.lit (.int .i64 s1), [])) (y2 := (.lit (.string s2.data.toList), [])) (y3 := (.lit (.string s3.data.toList), [])) Tryd.underlying32 (by kernel_rfl) cellsT (shut_string Tryd.underlying9 u0) (shut_int Tryd.underlying3 u1) (shut_string Tryd.underlying9 u2) (shut_string Tryd.underlying9 u3))
  · rfl
theorem objectTags_holds : Rows.ObjectTagsSaid :=
  OpenClaim.holds_of_cond 4 Tryd.f4 rfl rfl rfl rfl rfl rfl rfl ⟨rfl, rfl, rfl, rfl, rfl⟩ rfl rfl rfl rfl rfl (by kernel_rfl) Tryd.func4 (by kernel_rfl)
    (of_decide_eq_true (by kernel_rfl)) (by unfold Func.isWrapper; first | (rw [if_pos (by decide +kernel)]; kernel_rfl) | (rw [if_neg (by decide +kernel)]; exact ⟨rfl, rfl⟩))
    (fun os started H enc _ F0 => by rw [OpenClaim.pre_eq_preRow]; exact objectTags_lifted os started H enc F0)
theorem objectTags_card : Rows.ObjectTagsCardSaid :=
  Claim7.holds_tied_plain_at .later [] [.data, .data, .data, .data, .sentinel, .sentinel] true (true, "c78ebf846df513e800a664fa40645ef884836e36716661d69932dfd1b64cd907") true
    objectTags_holds (fun _ h => by cases h) (by kernel_rfl) (fun _ h => by cases h) objectTags_row_tie rfl ⟨rfl, rfl⟩ (by kernel_rfl) rfl
    (fun f fn hf hfn => by
      obtain rfl : f = 4 := Option.some.inj (hf.symm.trans (by kernel_rfl))
      obtain rfl : fn = Tryd.f4 := (Option.some.inj (Tryd.func4.symm.trans hfn)).symm
      exact ⟨by kernel_rfl, fun j t ht => by
        rw [Tryd.params4] at ht
        have hm : t ∈ [32] := by simpa using Array.mem_of_getElem? ht
        have hall : ([32].all fun u => !Tryd.prog.wantsStandIn u) = true := by kernel_rfl
        exact (show Tryd.prog.wantsStandIn t = false by simpa using List.all_eq_true.1 hall t hm)⟩)
    (by kernel_rfl)
#print axioms objectTags_card
end Go.Proofs.YtmjffngpaoaflaaDoor
