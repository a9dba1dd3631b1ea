/- The document's commit of a body, walked. -/
import Derived.Test.YtmjffngpaoaflaaGreatDoorPq
import Derived.Test.YtmjffngpaoaflaaGreatDoorOk
import Derived.Test.YtmjffngpaoaflaaGreatDoorOf
namespace Go.Proofs.YtmjffngpaoaflaaGreatDoor
namespace Ob
open Go.RowKit Go.Shelf
/-- A word without a line's end stands at the beginning of a body just if it does so of its first line. -/
theorem hasW_fsl (wd L : List UInt8) (hw : (10 : UInt8) ∉ wd) : hasW wd L = hasW wd (fsl L).1 := by
  unfold fsl
  cases hc : cutc 10 L with
  | none => rfl
  | some p =>
    obtain ⟨a, r⟩ := p
    obtain ⟨e, -⟩ := cutc_some 10 L a r hc
    simp only
    rw [Bool.eq_iff_iff]
    unfold hasW
    rw [List.isPrefixOf_iff_prefix, List.isPrefixOf_iff_prefix]
    constructor
    · intro h
      rw [e] at h
      rcases Nat.lt_or_ge a.length (wd ++ [32]).length with hl | hl
      · exfalso
        have h1 := List.prefix_iff_eq_take.1 h
        have h2 : (wd ++ [32])[a.length]? = some 10 := by
          rw [h1, List.getElem?_take, if_pos hl]
          simp
        have h3 : (10 : UInt8) ∈ wd ++ [32] := List.mem_of_getElem? h2
        simp only [List.mem_append, List.mem_cons, List.not_mem_nil, or_false] at h3
        rcases h3 with h3 | h3
        · exact hw h3
        · revert h3; decide
      · exact List.prefix_of_prefix_length_le h ⟨10 :: r, rfl⟩ hl
    · intro h
      rw [e]
      exact h.trans ⟨10 :: r, rfl⟩
theorem tkO_hasW {wd L : List UInt8} (hw : (10 : UInt8) ∉ wd) (h : tkO wd L = true) : hasW wd L = true := by
  rw [hasW_fsl wd L hw]
  unfold tkO at h
  rw [Bool.and_eq_true] at h
  exact h.2
theorem par_aut {L : List UInt8} (h : hasW parentW L = true) : tkO authorW L = false := by
  cases ha : tkO authorW L with
  | false => rfl
  | true =>
    exfalso
    have h2 := tkO_hasW (wd := authorW) (by decide) ha
    unfold hasW at h h2
    obtain ⟨a, ha⟩ := List.isPrefixOf_iff_prefix.1 h
    obtain ⟨b, hb⟩ := List.isPrefixOf_iff_prefix.1 h2
    rw [← hb] at ha
    have := congrArg List.head? ha
    revert this
    simp [parentW, authorW]
/-- What stands in memory while the document's commit is read. -/
structure GD (w0 : World) (M : Nat) (c : Cm) (w : World) : Prop where
  res : CBox w w0.heap.size 43 cmZ
  cb : CBox w M 43 c
  far : w0.heap.size + 1 ≤ M
  bel : Below w0.heap.size w0 w
  row : w.ownsRow (M + 1) 9 1 c.pv c.ps.length (c.ps.map .string)
theorem GD.below {w0 w w' : World} {M : Nat} {c : Cm} (h : GD w0 M c w) (hb : Below w.heap.size w w') : GD w0 M c w' :=
  ⟨h.res.below hb, h.cb.below hb, h.far, below2 h.bel hb, row_below h.row hb⟩
theorem GD.put {w0 w w' : World} {M : Nat} {c c' : Cm} (h : GD w0 M c w) (hg : w.grownBy w' (some M)) (hc : CBox w' M 43 c') (he : c'.pv = c.pv ∧ c'.ps = c.ps) : GD w0 M c' w' :=
  ⟨h.res.grown hg (by have := h.far; omega), hc, h.far, h.bel.grown hg (h.bel.size) (fun k hk => by have := h.far; simp at hk; omega), by rw [he.1, he.2]; exact row_kept h.row (by omega) hg⟩
theorem CBox.put0 {w : World} {N : Nat} {T : TypeId} {c : Cm} (h : CBox w N T c) (s : ByteArray) : CBox (w.setCell ⟨N, 0, none⟩ (.string s)) N T { c with tr := s } := ⟨by simp [World.setCell, h.blk, Array.getElem?_modify]⟩
theorem GD.set0 {w0 w : World} {M : Nat} {c : Cm} (h : GD w0 M c w) (s : ByteArray) : GD w0 M { c with tr := s } (w.setCell ⟨M, 0, none⟩ (.string s)) := h.put (grown_set _ _ _ _) (h.cb.put0 s) ⟨rfl, rfl⟩
theorem GD.set2 {w0 w : World} {M : Nat} {c : Cm} (h : GD w0 M c w) (s : ByteArray) : GD w0 M { c with au := s } (w.setCell ⟨M, 2, none⟩ (.string s)) := h.put (grown_set _ _ _ _) (h.cb.set2 s) ⟨rfl, rfl⟩
theorem GD.set3 {w0 w : World} {M : Nat} {c : Cm} (h : GD w0 M c w) (k : Nat) : GD w0 M { c with tm := k } (w.setCell ⟨M, 3, none⟩ (.int .u64 (k : Int))) := h.put (grown_set _ _ _ _) (h.cb.set3 k) ⟨rfl, rfl⟩
theorem GD.set4 {w0 w : World} {M : Nat} {c : Cm} (h : GD w0 M c w) (s : ByteArray) : GD w0 M { c with tx := s } (w.setCell ⟨M, 4, none⟩ (.string s)) := h.put (grown_set _ _ _ _) (h.cb.set4 s) ⟨rfl, rfl⟩
theorem GD.start (w0 : World) : GD w0 (w0.heap.size + 1) cmZ ((w0.alloc (.cells #[.string ⟨#[]⟩, .slice none 0 0, .string ⟨#[]⟩, .int .u64 0, .string ⟨#[]⟩] 43)).alloc (.cells #[.string ⟨#[]⟩, .slice none 0 0, .string ⟨#[]⟩, .int .u64 0, .string ⟨#[]⟩] 43)) :=
  ⟨CBox.below (CBox.new w0 43 cmZ) (new_below _ _), ⟨Cb.alloc_at (by simp)⟩, Nat.le_refl _, below2 (new_below _ _) (new_below _ _), ⟨rfl, .inl ⟨rfl, rfl⟩⟩⟩
theorem GD.append {w0 w1 w3 : World} {M : Nat} {c : Cm} (h : GD w0 M c w1) {o : Obj} {v3 : Value} {U : ByteArray} (hg : (w1.alloc o).grownBy w3 c.pv.ownBlock) (hown : w3.ownsRow (M + 1) 9 1 v3 (c.ps.length + 1) (c.ps.map .string ++ [.string U])) :
    CBox w3 M 43 c ∧ GD w0 M { c with pv := v3, ps := c.ps ++ [U] } (w3.setCell ⟨M, 1, none⟩ v3) := by
  have hn := new_below w1 o
  have ne : ∀ k, k ≤ M → some k ≠ c.pv.ownBlock := fun k hk e => by
    have := row_ge1 h.row k e.symm
    omega
  have hf := h.far
  have hc3 : CBox w3 M 43 c := (h.cb.below hn).grownO hg (ne M (by omega))
  have hgs := grown_set w3 M 1 v3
  refine ⟨hc3, ⟨((h.res.below hn).grownO hg (ne _ (by omega))).grown hgs (by omega), hc3.set1 v3 _, hf, ?_, ?_⟩⟩
  · have b1 : Below w0.heap.size w0 w3 := (below2 h.bel hn).grown hg ((below2 h.bel hn).size) (fun k hk => by have := row_ge1 h.row k hk; omega)
    exact b1.grown hgs b1.size (fun k hk => by simp at hk; omega)
  · show (w3.setCell ⟨M, 1, none⟩ v3).ownsRow (M + 1) 9 1 v3 (c.ps ++ [U]).length ((c.ps ++ [U]).map .string)
    rw [List.length_append, List.map_append]
    exact row_kept hown (by omega) hgs
theorem GD.drew {w0 w : World} {M : Nat} {c : Cm} (h : GD w0 M c w) : GD w0 M c w.drew := h.below ((Below.refl _ _).drew)
def szS : Value → Nat
  | .string s => s.size
  | _ => 0
theorem tx_cases2 (L : List UInt8) : (L = [] ∧ txO L = false) ∨ (∃ c r, L = c :: r ∧ c ≠ 10 ∧ txO L = false) ∨ (∃ r, L = 10 :: r ∧ txO L = true) := by
  cases L with
  | nil => exact .inl ⟨rfl, rfl⟩
  | cons c r =>
    by_cases h : c = 10
    · subst h
      exact .inr (.inr ⟨r, rfl, by simp [txO, List.isPrefixOf]⟩)
    · exact .inr (.inl ⟨c, r, rfl, h, by simp [txO, List.isPrefixOf]; exact fun e => h e.symm⟩)
theorem refUndec_c (L : List UInt8) (h : L.length ≤ 1000000) (w : World) : Calls Tryz.prog 28 #[.string (bs L)] w fun e w' => e = .returned (.tuple #[.int .u64 (undN L : Int), .int .i64 (if undO L = true then 0 else 6)]) ∧ w = w' := by
  have := Cb.refundec_any (bs L) w (by rw [bs_size]; exact h)
  rw [bs_list, udV_eq] at this
  exact this.mono fun _ _ h => ⟨h.1, h.2.symm⟩
set_option maxHeartbeats 6400000 in
set_option maxRecDepth 100000 in
theorem refgetCommit_any (L : List UInt8) (w : World) (hL : L.length ≤ 100000) :
    Calls Tryz.prog 20 #[.string (bs L)] w fun e w' => GetTo w L e w' := by
  have HTO : Hid (∀ e w', GetTo w L e w' ↔ ∃ c : Cm, e = .returned (.tuple #[cmV c, .int .i64 (gCz L)]) ∧ SRow w' c.pv c.ps ∧ (gCz L = 0 → c = { gCm L with pv := c.pv }) ∧ (gCz L ≠ 0 → c = cmZ) ∧ Below w.heap.size w w') := hideIt (fun _ _ => Iff.rfl)
  have HBAD : Hid (∀ w', gCz L = 6 → Below w.heap.size w w' → GetTo w L (.returned (.tuple #[cmV cmZ, .int .i64 6])) w') := hideIt (fun w' hg hb => ⟨cmZ, by rw [hg], SRow.nil _, fun h => by rw [hg] at h; omega, fun _ => rfl, hb⟩)
  have HL1 := hideIt (fun w => refline_any treeW L (by omega) (by decide) w)
  have hr1 := lnR_len treeW L
  have ht1 := lnT_len treeW L
  have HID := hideIt (fun w => refid_any (lnT treeW L) (by omega) w)
  rw [lnV_eq] at HL1
  have HO1 : Hid (tkO treeW L = true → lnR treeW L = tkR L ∧ lnT treeW L = tkT treeW L) := hideIt (fun h => by unfold lnR lnT; rw [if_pos h, if_pos h]; exact ⟨rfl, rfl⟩)
  obtain ⟨o, ho⟩ : ∃ o, tkO treeW L = o := ⟨_, rfl⟩
  have HO := hideIt ho
  rw [ho] at HL1 HO1
  obtain ⟨R0, hR0⟩ : ∃ R, lnR treeW L = R := ⟨_, rfl⟩
  rw [hR0] at HL1 HO1 hr1
  obtain ⟨T, hT⟩ : ∃ T, unhB (lnT treeW L) = T := ⟨_, rfl⟩
  have HT := hideIt hT
  obtain ⟨io, hio⟩ : ∃ io, idO (lnT treeW L) = io := ⟨_, rfl⟩
  rw [hT, hio] at HID
  obtain ⟨S, hS⟩ : ∃ S, bs L = S := ⟨_, rfl⟩
  obtain ⟨A, hA⟩ : ∃ A, bs (lnT treeW L) = A := ⟨_, rfl⟩
  rw [hS] at HL1 ⊢
  rw [hA] at HL1 HID
  have HST := hideIt (GD.start w)
  obtain ⟨i0, hi0, hz0, hz1, hz2⟩ := info_parts infoS
  clear ho hR0 hT hio hS hA
  go_enter Tryz.func20, Tryz.ntmps20
  go_wp2_with (first
    | (go_at_call 51; refine (HL1.out _).mono ?_; rintro e w1 ⟨rfl, hb1⟩)
    | (go_at_call 52; refine (HID.out _).mono ?_; rintro e w2 ⟨rfl, hb2⟩; have G2 := hideIt ((HST.out.below hb1).below hb2); have c20 := G2.out.cb.c0; have f20 := G2.out.cb.f0; dsimp only [cmZ] at c20))
  have G3 := hideIt (G2.out.set0 T)
  obtain ⟨M, hM⟩ : ∃ M, w.heap.size + 1 = M := ⟨_, rfl⟩
  rw [hM] at G3 ⊢
  clear hM G2 HST hb1 hb2 HL1 HID c20 f20
  go_loopw [6] (fun s wr => ∃ (R : List UInt8) (f : Nat) (v : Value) (ps : List ByteArray), s = .string (bs R) ∧ R.length ≤ f ∧ R.length + ps.length ≤ 100000 ∧ GD w M ⟨T, v, ps, ⟨#[]⟩, 0, ⟨#[]⟩⟩ wr ∧ (o = true → gPs (tkR L).length (tkR L) = (ps ++ (gPs f R).1, (gPs f R).2.1, (gPs f R).2.2))) (fun s _ => szS s)
  case atStart =>
    refine ⟨R0, R0.length, _, [], rfl, Nat.le_refl _, by simp; omega, G3.out, fun h => ?_⟩
    rw [← (HO1.out h).1]
    simp
  case round =>
    obtain ⟨R, f, v, ps, rfl, hf, hRl, g, hgp⟩ := hrel
    have HG := hideIt g
    have HGP := hideIt hgp
    clear g hgp G3
    have hRl1 : R.length ≤ 100000 := by omega
    have HP := hideIt (fun w => refline_any parentW R (by omega) (by decide) w)
    have HA := hideIt (fun w => refline_any authorW R (by omega) (by decide) w)
    have ha1 := lnR_len authorW R
    have ha3 := lnT_len authorW R
    have HTM := hideIt (fun w => refline_any timeW (lnR authorW R) (by omega) (by decide) w)
    have ha2 := lnT_len timeW (lnR authorW R)
    have ha4 := lnR_len timeW (lnR authorW R)
    have HU := hideIt (fun w => refUndec_c (lnT timeW (lnR authorW R)) (by omega) w)
    rw [lnV_eq] at HP HA HTM
    obtain ⟨AT, hAT⟩ : ∃ X, bs (lnT authorW R) = X := ⟨_, rfl⟩
    obtain ⟨AR, hAR⟩ : ∃ X, bs (lnR authorW R) = X := ⟨_, rfl⟩
    obtain ⟨o2, ho2⟩ : ∃ X, tkO authorW R = X := ⟨_, rfl⟩
    obtain ⟨TT, hTT⟩ : ∃ X, bs (lnT timeW (lnR authorW R)) = X := ⟨_, rfl⟩
    obtain ⟨r3, hr3⟩ : ∃ X, lnR timeW (lnR authorW R) = X := ⟨_, rfl⟩
    obtain ⟨o3, ho3⟩ : ∃ X, tkO timeW (lnR authorW R) = X := ⟨_, rfl⟩
    obtain ⟨un, hun⟩ : ∃ X, undN (lnT timeW (lnR authorW R)) = X := ⟨_, rfl⟩
    obtain ⟨ue, hue⟩ : ∃ X : Int, (if undO (lnT timeW (lnR authorW R)) = true then 0 else 6) = X := ⟨_, rfl⟩
    obtain ⟨RR, hRR⟩ : ∃ X, bs R = X := ⟨_, rfl⟩
    rw [hRR, hAT, hAR, ho2] at HA
    rw [hAR, hTT, hr3, ho3] at HTM
    rw [hTT, hun, hue] at HU
    rw [hRR] at HP ⊢
    rw [hr3] at ha4
    have HRR := hideIt hRR
    clear hRR
    cases o with
    | false =>
      have hg : gCz L = 6 := by
        unfold gCz gCo
        rw [HO.out, if_neg (by simp)]
      have G0 := HG
      clear HP
      go_wp2_with (first | (go_at_call_of 51 (Value.string ⟨#[97, 117, 116, 104, 111, 114]⟩); refine (HA.out _).mono ?_; rintro e w4 ⟨rfl, hb4⟩; have G4 := hideIt (G0.out.below hb4)) | (go_at_call_of 51 (Value.string ⟨#[116, 105, 109, 101]⟩); refine (HTM.out _).mono ?_; rintro e w5 ⟨rfl, hb5⟩; have G5 := hideIt (G4.out.below hb5); have e0 := G5.out.res.c0; have e1 := G5.out.res.c1; have e2 := G5.out.res.c2; have e3 := G5.out.res.c3; have e4 := G5.out.res.c4; have g0 := G5.out.res.f0; have g1 := G5.out.res.f1; have g2 := G5.out.res.f2; have g3 := G5.out.res.f3; have g4 := G5.out.res.f4; have a0 := G5.out.cb.c0; have a1 := G5.out.cb.c1; have a2 := G5.out.cb.c2; have a3 := G5.out.cb.c3; have a4 := G5.out.cb.c4; have b2 := G5.out.cb.f2; have b3 := G5.out.cb.f3; have b4 := G5.out.cb.f4; have hn1 : ¬ M = w.heap.size := (by have := G5.out.far; omega); have hn2 : ¬ w.heap.size = M := (by have := G5.out.far; omega); dsimp only [cmZ] at a0 a1 a2 a3 a4 e0 e1 e2 e3 e4) | (go_at_call 28; refine (HU.out _).mono ?_; rintro e w6 ⟨rfl, rfl⟩))
      refine bodyPost_ret (v := .tuple #[cmV cmZ, .int .i64 6]) ?_ rfl (HBAD.out _ hg (put5 G5.out.bel _ _ _ _ _))
      rw [results_c2 rfl]
      go_simp
      rfl
    | true =>
      have HGP1 := hideIt (HGP.out rfl)
      clear HGP
      have hp1 := lnR_len parentW R
      have hp2 := lnT_len parentW R
      obtain ⟨op, hop⟩ : ∃ X, tkO parentW R = X := ⟨_, rfl⟩
      rw [hop] at HP
      cases op with
      | true =>
        have e1 : lnT parentW R = tkT parentW R := by unfold lnT; rw [if_pos hop]
        have e2 : lnR parentW R = tkR R := by unfold lnR; rw [if_pos hop]
        have hw : hasW parentW R = true := tkO_hasW (by decide) hop
        obtain ⟨f2, hf2, hgs⟩ := gPs_step f R hf hw
        have hless := tkR_less (hasW_ne hw)
        have HIP := hideIt (fun w => refid_any (tkT parentW R) (by rw [← e1]; omega) w)
        rw [e1, e2] at HP
        rw [hop, Bool.true_and] at hgs
        have HGS := hideIt hgs
        obtain ⟨PT, hPT⟩ : ∃ X, bs (tkT parentW R) = X := ⟨_, rfl⟩
        obtain ⟨U, hU⟩ : ∃ X, unhB (tkT parentW R) = X := ⟨_, rfl⟩
        obtain ⟨ip, hip⟩ : ∃ X, idO (tkT parentW R) = X := ⟨_, rfl⟩
        rw [hPT] at HP HIP
        rw [hU, hip] at HIP HGS
        have hsz : RR.size = R.length := by rw [← HRR.out, bs_size]
        have HSZ := hideIt hsz
        clear e1 e2 hw hgs hPT hU hip hsz
        cases ip with
        | true =>
          go_wp2_with (first
            | (go_at_call_of 51 (Value.string ⟨#[112, 97, 114, 101, 110, 116]⟩); refine (HP.out _).mono ?_; rintro e w3 ⟨rfl, hb3⟩; have G0 := hideIt (HG.out.below hb3))
            | (go_at_call 52; refine (HIP.out _).mono ?_; rintro e w7 ⟨rfl, hb7⟩; have G7 := hideIt (G0.out.below hb7); have k1 := G7.out.cb.c1; have k2 := (G7.out.cb.below (new_below w7 (.cells #[.string U] 9))).c1; dsimp only at k1 k2)
            | (at_builtin; refine wpList_append_own _ rfl _ _ 39 rfl (M + 1) 9 i0 (.string ⟨#[]⟩) 1 16 Tryz.underlying39 hi0 hz0 hz1 hz2 rfl (by decide) _ _ _ rfl (G7.out.row.alloc _) ⟨w7.heap.size, 0, none⟩ 1 1 [.string U] rfl rfl (one_str (w := w7) U) (fun u hu => by simp at hu; subst hu; rfl) (by unfold maxLen; simp only; omega) (by simp only; omega) (by have := G7.out.cb.lt; simp; omega) ?_; intro v8 w8 hown8 hg8 hnil8; obtain ⟨g8, cp8, rfl⟩ := row_form hown8; have A8 := hideIt (G7.out.append hg8 hown8); have x1 := A8.out.1.c1; have y1 := A8.out.1.f1; dsimp only at x1))
          go_roundw
          case rel =>
            refine ⟨tkR R, f2, _, ps ++ [U], rfl, hf2, ?_, A8.out.2, fun _ => ?_⟩
            · rw [List.length_append]
              simp only [List.length_cons, List.length_nil]
              omega
            · rw [HGP1.out, HGS.out]
              simp
          case measure =>
            show (bs (tkR R)).size < RR.size
            rw [bs_size, HSZ.out]
            exact hless
        | false =>
          have hg : gCz L = 6 := by
            unfold gCz gCo
            rw [HGP1.out, HGS.out, if_neg (by simp)]
          go_wp2_with (first | (go_at_call_of 51 (Value.string ⟨#[112, 97, 114, 101, 110, 116]⟩); refine (HP.out _).mono ?_; rintro e w3 ⟨rfl, hb3⟩; have G0 := hideIt (HG.out.below hb3)) | (go_at_call 52; refine (HIP.out _).mono ?_; rintro e w7 ⟨rfl, hb7⟩; have G5 := hideIt (G0.out.below hb7); have e0 := G5.out.res.c0; have e1 := G5.out.res.c1; have e2 := G5.out.res.c2; have e3 := G5.out.res.c3; have e4 := G5.out.res.c4; have g0 := G5.out.res.f0; have g1 := G5.out.res.f1; have g2 := G5.out.res.f2; have g3 := G5.out.res.f3; have g4 := G5.out.res.f4; have a0 := G5.out.cb.c0; have a1 := G5.out.cb.c1; have a2 := G5.out.cb.c2; have a3 := G5.out.cb.c3; have a4 := G5.out.cb.c4; have b2 := G5.out.cb.f2; have b3 := G5.out.cb.f3; have b4 := G5.out.cb.f4; have hn1 : ¬ M = w.heap.size := (by have := G5.out.far; omega); have hn2 : ¬ w.heap.size = M := (by have := G5.out.far; omega); dsimp only [cmZ] at a0 a1 a2 a3 a4 e0 e1 e2 e3 e4))
          refine bodyPost_ret (v := .tuple #[cmV cmZ, .int .i64 6]) ?_ rfl (HBAD.out _ hg (put5 G5.out.bel _ _ _ _ _))
          rw [results_c2 rfl]
          go_simp
          rfl
      | false =>
        obtain ⟨PX, hPX⟩ : ∃ X, bs (lnT parentW R) = X := ⟨_, rfl⟩
        obtain ⟨PY, hPY⟩ : ∃ X, bs (lnR parentW R) = X := ⟨_, rfl⟩
        rw [hPX, hPY] at HP
        clear hPX hPY hp1 hp2
        cases hh : hasW parentW R with
        | true =>
          have hg : gCz L = 6 := by
            obtain ⟨f2, hf2, hgs⟩ := gPs_step f R hf hh
            unfold gCz gCo
            rw [HGP1.out, hgs, hop, if_neg (by simp)]
          have h2 : o2 = false := by rw [← ho2]; exact par_aut hh
          subst h2
          go_wp2_with (first | (go_at_call_of 51 (Value.string ⟨#[112, 97, 114, 101, 110, 116]⟩); refine (HP.out _).mono ?_; rintro e w3 ⟨rfl, hb3⟩; have G0 := hideIt (HG.out.below hb3)) | (go_at_call_of 51 (Value.string ⟨#[97, 117, 116, 104, 111, 114]⟩); refine (HA.out _).mono ?_; rintro e w4 ⟨rfl, hb4⟩; have G4 := hideIt (G0.out.below hb4)) | (go_at_call_of 51 (Value.string ⟨#[116, 105, 109, 101]⟩); refine (HTM.out _).mono ?_; rintro e w5 ⟨rfl, hb5⟩; have G5 := hideIt (G4.out.below hb5); have e0 := G5.out.res.c0; have e1 := G5.out.res.c1; have e2 := G5.out.res.c2; have e3 := G5.out.res.c3; have e4 := G5.out.res.c4; have g0 := G5.out.res.f0; have g1 := G5.out.res.f1; have g2 := G5.out.res.f2; have g3 := G5.out.res.f3; have g4 := G5.out.res.f4; have a0 := G5.out.cb.c0; have a1 := G5.out.cb.c1; have a2 := G5.out.cb.c2; have a3 := G5.out.cb.c3; have a4 := G5.out.cb.c4; have b2 := G5.out.cb.f2; have b3 := G5.out.cb.f3; have b4 := G5.out.cb.f4; have hn1 : ¬ M = w.heap.size := (by have := G5.out.far; omega); have hn2 : ¬ w.heap.size = M := (by have := G5.out.far; omega); dsimp only [cmZ] at a0 a1 a2 a3 a4 e0 e1 e2 e3 e4) | (go_at_call 28; refine (HU.out _).mono ?_; rintro e w6 ⟨rfl, rfl⟩))
          refine bodyPost_ret (v := .tuple #[cmV cmZ, .int .i64 6]) ?_ rfl (HBAD.out _ hg (put5 G5.out.bel _ _ _ _ _))
          rw [results_c2 rfl]
          go_simp
          rfl
        | false =>
          have HGE : Hid (gPs (tkR L).length (tkR L) = (ps, R, true)) := hideIt (by rw [HGP1.out, gPs_end f R hh]; simp)
          have HGO : Hid (gCo L = (decide (T.size = 32) && tkO authorW R && (tkO timeW (tkR R) && undO (tkT timeW (tkR R))) && txO (tkR (tkR R)))) := hideIt (by
            unfold gCo
            rw [HGE.out, HO.out, idO_eq, ← (HO1.out rfl).2, HT.out]
            simp)
          have HCM : Hid (gCm L = ⟨T, .slice none 0 0, ps, bs (tkT authorW R), undN (tkT timeW (tkR R)), bs (txT (tkR (tkR R)))⟩) := hideIt (by unfold gCm; rw [HGE.out, ← (HO1.out rfl).2, HT.out])
          clear HGP1 hh hop
          cases o2 with
          | false =>
            have hg : gCz L = 6 := by
              unfold gCz
              rw [HGO.out, ho2, if_neg (by simp)]
            go_wp2_with (first | (go_at_call_of 51 (Value.string ⟨#[112, 97, 114, 101, 110, 116]⟩); refine (HP.out _).mono ?_; rintro e w3 ⟨rfl, hb3⟩; have G0 := hideIt (HG.out.below hb3)) | (go_at_call_of 51 (Value.string ⟨#[97, 117, 116, 104, 111, 114]⟩); refine (HA.out _).mono ?_; rintro e w4 ⟨rfl, hb4⟩; have G4 := hideIt (G0.out.below hb4)) | (go_at_call_of 51 (Value.string ⟨#[116, 105, 109, 101]⟩); refine (HTM.out _).mono ?_; rintro e w5 ⟨rfl, hb5⟩; have G5 := hideIt (G4.out.below hb5); have e0 := G5.out.res.c0; have e1 := G5.out.res.c1; have e2 := G5.out.res.c2; have e3 := G5.out.res.c3; have e4 := G5.out.res.c4; have g0 := G5.out.res.f0; have g1 := G5.out.res.f1; have g2 := G5.out.res.f2; have g3 := G5.out.res.f3; have g4 := G5.out.res.f4; have a0 := G5.out.cb.c0; have a1 := G5.out.cb.c1; have a2 := G5.out.cb.c2; have a3 := G5.out.cb.c3; have a4 := G5.out.cb.c4; have b2 := G5.out.cb.f2; have b3 := G5.out.cb.f3; have b4 := G5.out.cb.f4; have hn1 : ¬ M = w.heap.size := (by have := G5.out.far; omega); have hn2 : ¬ w.heap.size = M := (by have := G5.out.far; omega); dsimp only [cmZ] at a0 a1 a2 a3 a4 e0 e1 e2 e3 e4) | (go_at_call 28; refine (HU.out _).mono ?_; rintro e w6 ⟨rfl, rfl⟩))
            refine bodyPost_ret (v := .tuple #[cmV cmZ, .int .i64 6]) ?_ rfl (HBAD.out _ hg (put5 G5.out.bel _ _ _ _ _))
            rw [results_c2 rfl]
            go_simp
            rfl
          | true =>
            have e1 : lnT authorW R = tkT authorW R := by unfold lnT; rw [if_pos ho2]
            have e2 : lnR authorW R = tkR R := by unfold lnR; rw [if_pos ho2]
            rw [e2] at ho3 hr3 hue hun ha4 ha1
            rw [e1] at hAT ha3
            clear e1 e2 hTT hAR
            cases o3 with
            | false =>
              have hg : gCz L = 6 := by
                unfold gCz
                rw [HGO.out, ho2, ho3, if_neg (by simp)]
              go_wp2_with (first | (go_at_call_of 51 (Value.string ⟨#[112, 97, 114, 101, 110, 116]⟩); refine (HP.out _).mono ?_; rintro e w3 ⟨rfl, hb3⟩; have G0 := hideIt (HG.out.below hb3)) | (go_at_call_of 51 (Value.string ⟨#[97, 117, 116, 104, 111, 114]⟩); refine (HA.out _).mono ?_; rintro e w4 ⟨rfl, hb4⟩; have G4 := hideIt (G0.out.below hb4)) | (go_at_call_of 51 (Value.string ⟨#[116, 105, 109, 101]⟩); refine (HTM.out _).mono ?_; rintro e w5 ⟨rfl, hb5⟩; have G5 := hideIt (G4.out.below hb5); have e0 := G5.out.res.c0; have e1 := G5.out.res.c1; have e2 := G5.out.res.c2; have e3 := G5.out.res.c3; have e4 := G5.out.res.c4; have g0 := G5.out.res.f0; have g1 := G5.out.res.f1; have g2 := G5.out.res.f2; have g3 := G5.out.res.f3; have g4 := G5.out.res.f4; have a0 := G5.out.cb.c0; have a1 := G5.out.cb.c1; have a2 := G5.out.cb.c2; have a3 := G5.out.cb.c3; have a4 := G5.out.cb.c4; have b2 := G5.out.cb.f2; have b3 := G5.out.cb.f3; have b4 := G5.out.cb.f4; have hn1 : ¬ M = w.heap.size := (by have := G5.out.far; omega); have hn2 : ¬ w.heap.size = M := (by have := G5.out.far; omega); dsimp only [cmZ] at a0 a1 a2 a3 a4 e0 e1 e2 e3 e4) | (go_at_call 28; refine (HU.out _).mono ?_; rintro e w6 ⟨rfl, rfl⟩))
              refine bodyPost_ret (v := .tuple #[cmV cmZ, .int .i64 6]) ?_ rfl (HBAD.out _ hg (put5 G5.out.bel _ _ _ _ _))
              rw [results_c2 rfl]
              go_simp
              rfl
            | true =>
              have e3 : lnT timeW (tkR R) = tkT timeW (tkR R) := by unfold lnT; rw [if_pos ho3]
              have e4 : lnR timeW (tkR R) = tkR (tkR R) := by unfold lnR; rw [if_pos ho3]
              rw [e3] at hue hun
              rw [e4] at hr3
              by_cases hT32 : T.size = 32
              · have u1 : ((T.size : Int) != 32) = false := by simp; omega
                have u2 : (T.size : Int) = 32 := by omega
                cases huo : undO (tkT timeW (tkR R)) with
                | false =>
                  have hg : gCz L = 6 := by
                    unfold gCz
                    rw [HGO.out, ho2, ho3, huo, if_neg (by simp)]
                  rw [huo, if_neg (by decide)] at hue
                  subst hue
                  go_wp2_with (first | (go_at_call_of 51 (Value.string ⟨#[112, 97, 114, 101, 110, 116]⟩); refine (HP.out _).mono ?_; rintro e w3 ⟨rfl, hb3⟩; have G0 := hideIt (HG.out.below hb3)) | (go_at_call_of 51 (Value.string ⟨#[97, 117, 116, 104, 111, 114]⟩); refine (HA.out _).mono ?_; rintro e w4 ⟨rfl, hb4⟩; have G4 := hideIt (G0.out.below hb4)) | (go_at_call_of 51 (Value.string ⟨#[116, 105, 109, 101]⟩); refine (HTM.out _).mono ?_; rintro e w5 ⟨rfl, hb5⟩; have G5 := hideIt (G4.out.below hb5); have e0 := G5.out.res.c0; have e1 := G5.out.res.c1; have e2 := G5.out.res.c2; have e3 := G5.out.res.c3; have e4 := G5.out.res.c4; have g0 := G5.out.res.f0; have g1 := G5.out.res.f1; have g2 := G5.out.res.f2; have g3 := G5.out.res.f3; have g4 := G5.out.res.f4; have a0 := G5.out.cb.c0; have a1 := G5.out.cb.c1; have a2 := G5.out.cb.c2; have a3 := G5.out.cb.c3; have a4 := G5.out.cb.c4; have b2 := G5.out.cb.f2; have b3 := G5.out.cb.f3; have b4 := G5.out.cb.f4; have hn1 : ¬ M = w.heap.size := (by have := G5.out.far; omega); have hn2 : ¬ w.heap.size = M := (by have := G5.out.far; omega); dsimp only [cmZ] at a0 a1 a2 a3 a4 e0 e1 e2 e3 e4) | (go_at_call 28; refine (HU.out _).mono ?_; rintro e w6 ⟨rfl, rfl⟩))
                  refine bodyPost_ret (v := .tuple #[cmV cmZ, .int .i64 6]) ?_ rfl (HBAD.out _ hg (put5 G5.out.bel _ _ _ _ _))
                  rw [results_c2 rfl]
                  go_simp
                  rfl
                | true =>
                  rw [huo, if_pos rfl] at hue
                  subst hue
                  rw [hr3] at HGO HCM
                  rcases tx_cases2 r3 with ⟨hr, ht⟩ | ⟨c, r, hr, hc, ht⟩ | ⟨r, hr, ht⟩
                  · have z0 : ((bs r3).size : Int) = 0 := by rw [hr]; rfl
                    obtain ⟨S3, hS3⟩ : ∃ S, bs r3 = S := ⟨_, rfl⟩
                    have hg : gCz L = 6 := by
                      unfold gCz
                      rw [HGO.out, ht, if_neg (by simp)]
                    rw [hS3] at z0 HTM
                    clear hr hr3 hS3 e4
                    go_wp2_with (first | (go_at_call_of 51 (Value.string ⟨#[112, 97, 114, 101, 110, 116]⟩); refine (HP.out _).mono ?_; rintro e w3 ⟨rfl, hb3⟩; have G0 := hideIt (HG.out.below hb3)) | (go_at_call_of 51 (Value.string ⟨#[97, 117, 116, 104, 111, 114]⟩); refine (HA.out _).mono ?_; rintro e w4 ⟨rfl, hb4⟩; have G4 := hideIt (G0.out.below hb4)) | (go_at_call_of 51 (Value.string ⟨#[116, 105, 109, 101]⟩); refine (HTM.out _).mono ?_; rintro e w5 ⟨rfl, hb5⟩; have G5 := hideIt (G4.out.below hb5); have e0 := G5.out.res.c0; have e1 := G5.out.res.c1; have e2 := G5.out.res.c2; have e3 := G5.out.res.c3; have e4 := G5.out.res.c4; have g0 := G5.out.res.f0; have g1 := G5.out.res.f1; have g2 := G5.out.res.f2; have g3 := G5.out.res.f3; have g4 := G5.out.res.f4; have a0 := G5.out.cb.c0; have a1 := G5.out.cb.c1; have a2 := G5.out.cb.c2; have a3 := G5.out.cb.c3; have a4 := G5.out.cb.c4; have b2 := G5.out.cb.f2; have b3 := G5.out.cb.f3; have b4 := G5.out.cb.f4; have hn1 : ¬ M = w.heap.size := (by have := G5.out.far; omega); have hn2 : ¬ w.heap.size = M := (by have := G5.out.far; omega); dsimp only [cmZ] at a0 a1 a2 a3 a4 e0 e1 e2 e3 e4) | (go_at_call 28; refine (HU.out _).mono ?_; rintro e w6 ⟨rfl, rfl⟩))
                    refine bodyPost_ret (v := .tuple #[cmV cmZ, .int .i64 6]) ?_ rfl (HBAD.out _ hg (put5 G5.out.bel _ _ _ _ _))
                    rw [results_c2 rfl]
                    go_simp
                    rfl
                  · have hg : gCz L = 6 := by
                      unfold gCz
                      rw [HGO.out, ht, if_neg (by simp)]
                    obtain ⟨S3, hS3, z0, z5⟩ : ∃ S, bs r3 = S ∧ ∃ h : 0 < S.size, S[0]'h = c := ⟨bs r3, rfl, by rw [hr, bs_size]; simp, by subst hr; rfl⟩
                    have z1 : (0 : Int) < (S3.size : Int) := by omega
                    have z3 : ¬ (S3.size : Int) = 0 := by omega
                    have z2 : ((S3.size : Int) == 0) = false := beq_eq_false_iff_ne.2 z3
                    have z4 : ((c.toNat : Int) != 10) = true := by
                      have h10 : (10 : UInt8).toNat = 10 := rfl
                      have : ¬ (c.toNat : Int) = 10 := fun e => hc (UInt8.toNat_inj.1 (by omega))
                      simpa using this
                    rw [hS3] at HTM
                    clear hr hr3 hS3 e4
                    go_wp2_with (first | (go_at_call_of 51 (Value.string ⟨#[112, 97, 114, 101, 110, 116]⟩); refine (HP.out _).mono ?_; rintro e w3 ⟨rfl, hb3⟩; have G0 := hideIt (HG.out.below hb3)) | (go_at_call_of 51 (Value.string ⟨#[97, 117, 116, 104, 111, 114]⟩); refine (HA.out _).mono ?_; rintro e w4 ⟨rfl, hb4⟩; have G4 := hideIt (G0.out.below hb4)) | (go_at_call_of 51 (Value.string ⟨#[116, 105, 109, 101]⟩); refine (HTM.out _).mono ?_; rintro e w5 ⟨rfl, hb5⟩; have G5 := hideIt (G4.out.below hb5); have e0 := G5.out.res.c0; have e1 := G5.out.res.c1; have e2 := G5.out.res.c2; have e3 := G5.out.res.c3; have e4 := G5.out.res.c4; have g0 := G5.out.res.f0; have g1 := G5.out.res.f1; have g2 := G5.out.res.f2; have g3 := G5.out.res.f3; have g4 := G5.out.res.f4; have a0 := G5.out.cb.c0; have a1 := G5.out.cb.c1; have a2 := G5.out.cb.c2; have a3 := G5.out.cb.c3; have a4 := G5.out.cb.c4; have b2 := G5.out.cb.f2; have b3 := G5.out.cb.f3; have b4 := G5.out.cb.f4; have hn1 : ¬ M = w.heap.size := (by have := G5.out.far; omega); have hn2 : ¬ w.heap.size = M := (by have := G5.out.far; omega); dsimp only [cmZ] at a0 a1 a2 a3 a4 e0 e1 e2 e3 e4) | (go_at_call 28; refine (HU.out _).mono ?_; rintro e w6 ⟨rfl, rfl⟩))
                    refine bodyPost_ret (v := .tuple #[cmV cmZ, .int .i64 6]) ?_ rfl (HBAD.out _ hg (put5 G5.out.bel _ _ _ _ _))
                    rw [results_c2 rfl]
                    go_simp
                    rfl
                  · obtain ⟨S3, hS3, z0, z5⟩ : ∃ S, bs r3 = S ∧ ∃ h : 0 < S.size, S[0]'h = 10 := ⟨bs r3, rfl, by rw [hr, bs_size]; simp, by subst hr; rfl⟩
                    have z6 : (bs r3).extract 1 (bs r3).size = bs (txT r3) := by
                      rw [bs_extract, bs_size]
                      congr 1
                      unfold txT
                      rw [if_pos ht]
                      apply List.take_of_length_le
                      simp
                    have hX1 : (bs (txT r3)).size ≤ 1000000 := by rw [bs_size]; exact Nat.le_trans (txT_len _) (by omega)
                    have hA1 : AT.size ≤ 1000000 := by rw [← hAT, bs_size]; omega
                    obtain ⟨X, hX⟩ : ∃ X, bs (txT r3) = X := ⟨_, rfl⟩
                    rw [hX] at HCM z6 hX1
                    rw [hAT, hun] at HCM
                    rw [hS3] at HTM z6
                    have z1 : (0 : Int) < (S3.size : Int) := by omega
                    have z3 : ¬ (S3.size : Int) = 0 := by omega
                    have z2 : ((S3.size : Int) == 0) = false := beq_eq_false_iff_ne.2 z3
                    have z7 : (1 : Int) ≤ (S3.size : Int) := by omega
                    have z8 : ((S3[0]'z0).toNat : Int) = 10 := by rw [z5]; rfl
                    have HCZ : Hid (gCz L = comE (gCm L)) := hideIt (by
                      unfold gCz
                      rw [if_pos]
                      rw [HGO.out, ho2, ho3, huo, ht, decide_eq_true hT32]
                      rfl)
                    have HCK := hideIt (fun (v : Value) (w' : World) (hr : SRow w' v ps) => refcheckCommit_any ⟨T, v, ps, AT, un, X⟩ w' hr hA1 hX1)
                    have HCE : Hid (∀ v, comE ⟨T, v, ps, AT, un, X⟩ = comE (gCm L)) := hideIt (fun v => by rw [HCM.out]; rfl)
                    obtain ⟨z, hz⟩ : ∃ z, comE (gCm L) = z := ⟨_, rfl⟩
                    rw [hz] at HCE HCZ
                    unfold cmV at HCK
                    simp only at HCK
                    obtain ⟨av, cv, hv, -, -, -⟩ := SRow.of_row HG.out.row
                    simp only at hv
                    subst hv
                    clear hr hr3 hS3 hX z5 e3 e4 hz huo hT32
                    go_wp2_with (first | (go_at_call_of 51 (Value.string ⟨#[112, 97, 114, 101, 110, 116]⟩); refine (HP.out _).mono ?_; rintro e w3 ⟨rfl, hb3⟩; have G0 := hideIt (HG.out.below hb3)) | (go_at_call_of 51 (Value.string ⟨#[97, 117, 116, 104, 111, 114]⟩); refine (HA.out _).mono ?_; rintro e w4 ⟨rfl, hb4⟩; have G4 := hideIt (G0.out.below hb4)) | (go_at_call_of 51 (Value.string ⟨#[116, 105, 109, 101]⟩); refine (HTM.out _).mono ?_; rintro e w5 ⟨rfl, hb5⟩; have G5 := hideIt (G4.out.below hb5); have e0 := G5.out.res.c0; have e1 := G5.out.res.c1; have e2 := G5.out.res.c2; have e3 := G5.out.res.c3; have e4 := G5.out.res.c4; have g0 := G5.out.res.f0; have g1 := G5.out.res.f1; have g2 := G5.out.res.f2; have g3 := G5.out.res.f3; have g4 := G5.out.res.f4; have a0 := G5.out.cb.c0; have a1 := G5.out.cb.c1; have a2 := G5.out.cb.c2; have a3 := G5.out.cb.c3; have a4 := G5.out.cb.c4; have b2 := G5.out.cb.f2; have b3 := G5.out.cb.f3; have b4 := G5.out.cb.f4; have hn1 : ¬ M = w.heap.size := (by have := G5.out.far; omega); have hn2 : ¬ w.heap.size = M := (by have := G5.out.far; omega); dsimp only [cmZ] at a0 a1 a2 a3 a4 e0 e1 e2 e3 e4) | (go_at_call 28; refine (HU.out _).mono ?_; rintro e w6 ⟨rfl, rfl⟩))
                    go_region
                    have GF := hideIt (((G5.out.set2 AT).set3 un).set4 X).drew
                    by_cases hz0 : z = 0
                    · subst hz0
                      go_wp2_with (first | (go_at_call 14; refine (HCK.out _ _ (SRow.of_row GF.out.row)).mono ?_; rintro e w9 ⟨he9, hb9⟩; rw [HCE.out] at he9; subst he9; have G9 := hideIt (GF.out.below hb9); have d0 := G9.out.cb.c0; have d1 := G9.out.cb.c1; have d2 := G9.out.cb.c2; have d3 := G9.out.cb.c3; have d4 := G9.out.cb.c4; have x0 := G9.out.res.c0; have x1 := G9.out.res.c1; have x2 := G9.out.res.c2; have x3 := G9.out.res.c3; have x4 := G9.out.res.c4; have y0 := G9.out.res.f0; have y1 := G9.out.res.f1; have y2 := G9.out.res.f2; have y3 := G9.out.res.f3; have y4 := G9.out.res.f4; dsimp only [cmZ] at d0 d1 d2 d3 d4 x0 x1 x2 x3 x4))
                      refine bodyPost_ret (v := .tuple #[cmV ⟨T, .slice av ps.length cv, ps, AT, un, X⟩, .int .i64 0]) ?_ rfl ((HTO.out _ _).2 ⟨⟨T, .slice av ps.length cv, ps, AT, un, X⟩, by rw [HCZ.out], SRow.of_row (row_kept G9.out.row (by have := G9.out.far; omega) (grown5 _ _ _ _ _ _ _)), fun _ => by rw [HCM.out], fun h => absurd HCZ.out h, put5 G9.out.bel _ _ _ _ _⟩)
                      rw [results_c2 rfl]
                      go_simp
                      rfl
                    · have q1 : (z != 0) = true := by simpa using hz0
                      go_wp2_with (first | (go_at_call 14; refine (HCK.out _ _ (SRow.of_row GF.out.row)).mono ?_; rintro e w9 ⟨he9, hb9⟩; rw [HCE.out] at he9; subst he9; have G9 := hideIt (GF.out.below hb9); have d0 := G9.out.cb.c0; have d1 := G9.out.cb.c1; have d2 := G9.out.cb.c2; have d3 := G9.out.cb.c3; have d4 := G9.out.cb.c4; have x0 := G9.out.res.c0; have x1 := G9.out.res.c1; have x2 := G9.out.res.c2; have x3 := G9.out.res.c3; have x4 := G9.out.res.c4; have y0 := G9.out.res.f0; have y1 := G9.out.res.f1; have y2 := G9.out.res.f2; have y3 := G9.out.res.f3; have y4 := G9.out.res.f4; dsimp only [cmZ] at d0 d1 d2 d3 d4 x0 x1 x2 x3 x4))
                      refine bodyPost_ret (v := .tuple #[cmV cmZ, .int .i64 z]) ?_ rfl ((HTO.out _ _).2 ⟨cmZ, by rw [HCZ.out], SRow.nil _, fun h => absurd (HCZ.out.symm.trans h) hz0, fun _ => rfl, put5 G9.out.bel _ _ _ _ _⟩)
                      rw [results_c2 rfl]
                      go_simp
                      rfl
              · have u1 : ((T.size : Int) != 32) = true := by simp; omega
                have u2 : ¬ (T.size : Int) = 32 := by omega
                have hg : gCz L = 6 := by
                  unfold gCz
                  rw [HGO.out, decide_eq_false hT32, if_neg (by simp)]
                go_wp2_with (first | (go_at_call_of 51 (Value.string ⟨#[112, 97, 114, 101, 110, 116]⟩); refine (HP.out _).mono ?_; rintro e w3 ⟨rfl, hb3⟩; have G0 := hideIt (HG.out.below hb3)) | (go_at_call_of 51 (Value.string ⟨#[97, 117, 116, 104, 111, 114]⟩); refine (HA.out _).mono ?_; rintro e w4 ⟨rfl, hb4⟩; have G4 := hideIt (G0.out.below hb4)) | (go_at_call_of 51 (Value.string ⟨#[116, 105, 109, 101]⟩); refine (HTM.out _).mono ?_; rintro e w5 ⟨rfl, hb5⟩; have G5 := hideIt (G4.out.below hb5); have e0 := G5.out.res.c0; have e1 := G5.out.res.c1; have e2 := G5.out.res.c2; have e3 := G5.out.res.c3; have e4 := G5.out.res.c4; have g0 := G5.out.res.f0; have g1 := G5.out.res.f1; have g2 := G5.out.res.f2; have g3 := G5.out.res.f3; have g4 := G5.out.res.f4; have a0 := G5.out.cb.c0; have a1 := G5.out.cb.c1; have a2 := G5.out.cb.c2; have a3 := G5.out.cb.c3; have a4 := G5.out.cb.c4; have b2 := G5.out.cb.f2; have b3 := G5.out.cb.f3; have b4 := G5.out.cb.f4; have hn1 : ¬ M = w.heap.size := (by have := G5.out.far; omega); have hn2 : ¬ w.heap.size = M := (by have := G5.out.far; omega); dsimp only [cmZ] at a0 a1 a2 a3 a4 e0 e1 e2 e3 e4) | (go_at_call 28; refine (HU.out _).mono ?_; rintro e w6 ⟨rfl, rfl⟩))
                refine bodyPost_ret (v := .tuple #[cmV cmZ, .int .i64 6]) ?_ rfl (HBAD.out _ hg (put5 G5.out.bel _ _ _ _ _))
                rw [results_c2 rfl]
                go_simp
                rfl
end Ob
end Go.Proofs.YtmjffngpaoaflaaGreatDoor
