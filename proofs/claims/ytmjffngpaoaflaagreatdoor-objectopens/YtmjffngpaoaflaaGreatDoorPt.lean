/- The document's tag of a body, walked. -/
import Derived.Test.YtmjffngpaoaflaaGreatDoorPq
import Derived.Test.YtmjffngpaoaflaaGreatDoorOh
namespace Go.Proofs.YtmjffngpaoaflaaGreatDoor
namespace Ob
open Go.RowKit Go.Shelf
theorem TBox.set0 {w : World} {N : Nat} {T : TypeId} {t : Tg} (h : TBox w N T t) (s : ByteArray) : TBox (w.setCell ⟨N, 0, none⟩ (.string s)) N T { t with tgt := s } := ⟨by simp [World.setCell, h.blk, Array.getElem?_modify]⟩
/-- What stands in memory while the document's tag is read: the answer's place, the tag so far. -/
structure DS (w0 : World) (M : Nat) (t : Tg) (w : World) : Prop where
  res : TBox w w0.heap.size 61 tgZ
  tb : TBox w M 61 t
  far : w0.heap.size + 1 ≤ M
  bel : Below w0.heap.size w0 w
theorem DS.below {w0 w w' : World} {M : Nat} {t : Tg} (h : DS w0 M t w) (hb : Below w.heap.size w w') : DS w0 M t w' :=
  ⟨h.res.below hb, h.tb.below hb, h.far, below2 h.bel hb⟩
theorem DS.put {w0 w w' : World} {M : Nat} {t t' : Tg} (h : DS w0 M t w) (hg : w.grownBy w' (some M)) (ht : TBox w' M 61 t') : DS w0 M t' w' :=
  ⟨h.res.grown hg (by have := h.far; omega), ht, h.far, h.bel.grown hg (h.bel.size) (fun k hk => by have := h.far; simp at hk; omega)⟩
theorem DS.set0 {w0 w : World} {M : Nat} {t : Tg} (h : DS w0 M t w) (s : ByteArray) : DS w0 M { t with tgt := s } (w.setCell ⟨M, 0, none⟩ (.string s)) := h.put (grown_set _ _ _ _) (h.tb.set0 s)
theorem DS.set1 {w0 w : World} {M : Nat} {t : Tg} (h : DS w0 M t w) (k : Int) : DS w0 M { t with kd := k } (w.setCell ⟨M, 1, none⟩ (.int .i64 k)) := h.put (grown_set _ _ _ _) (h.tb.set1 k)
theorem DS.set3 {w0 w : World} {M : Nat} {t : Tg} (h : DS w0 M t w) (s : ByteArray) : DS w0 M { t with tx := s } (w.setCell ⟨M, 3, none⟩ (.string s)) := h.put (grown_set _ _ _ _) (h.tb.set3 s)
theorem DS.start {w0 w1 : World} (hb : Below w0.heap.size w0 w1) (hz : TBox w1 w0.heap.size 61 tgZ) (s : ByteArray) :
    DS w0 w1.heap.size ⟨⟨#[]⟩, 0, s, ⟨#[]⟩⟩ (w1.alloc (.cells #[.string ⟨#[]⟩, .int .i64 0, .string s, .string ⟨#[]⟩] 61)) :=
  ⟨hz.below (new_below _ _), ⟨Cb.alloc_at rfl⟩, hz.lt, below2 hb (new_below _ _)⟩
theorem DS.drew {w0 w : World} {M : Nat} {t : Tg} (h : DS w0 M t w) : DS w0 M t w.drew := h.below ((Below.refl _ _).drew)
theorem tx_cases (L : List UInt8) : (L = [] ∧ txO L = false) ∨ (∃ c r, L = c :: r ∧ c ≠ 10 ∧ txO L = false) ∨ (∃ r, L = 10 :: r ∧ txO L = true) := by
  cases L with
  | nil => exact .inl ⟨rfl, rfl⟩
  | cons c r =>
    by_cases h : c = 10
    · subst h
      exact .inr (.inr ⟨r, rfl, by simp [txO, List.isPrefixOf]⟩)
    · exact .inr (.inl ⟨c, r, rfl, h, by simp [txO, List.isPrefixOf]; exact fun e => h e.symm⟩)
set_option maxHeartbeats 3200000 in
set_option maxRecDepth 100000 in
theorem refgetTag_any (L : List UInt8) (w : World) (hL : L.length ≤ 100000) :
    Calls Tryz.prog 22 #[.string (bs L)] w fun e w' => e = .returned (.tuple #[tgV (gT L).1, .int .i64 (gT L).2]) ∧ Below w.heap.size w w' := by
  have HGT := hideIt (gT_doc L)
  have HL1 := hideIt (fun w => refline_any objectW L (by omega) (by decide) w)
  have hr1 := lnR_len objectW L
  have hr2 := lnR_len kindW (lnR objectW L)
  have hr3 := lnR_len nameW (lnR kindW (lnR objectW L))
  have ht1 := lnT_len objectW L
  have ht3 := lnT_len nameW (lnR kindW (lnR objectW L))
  have HL2 := hideIt (fun w => refline_any kindW (lnR objectW L) (by omega) (by decide) w)
  have HL3 := hideIt (fun w => refline_any nameW (lnR kindW (lnR objectW L)) (by omega) (by decide) w)
  have HID := hideIt (fun w => refid_any (lnT objectW L) (by omega) w)
  have HK := hideIt (fun (i : Nat) (hi : 1 ≤ i ∧ i ≤ 4) w => refkind_any (i : Int) (by omega) w)
  have HQ : Hid (∀ i : Nat, 1 ≤ i ∧ i ≤ 4 → ((bs (kw (i : Int))).toList == (bs (lnT kindW (lnR objectW L))).toList) = decide (kn (lnT kindW (lnR objectW L)) = (i : Int))) := hideIt (fun i hi => by
    rw [bsl_eq]
    exact decide_eq_decide.2 (kw_kn _ i (by omega)))
  have HCT := hideIt (fun w => refcheckTag_any (dTt L) w (by show (bs (lnT nameW (lnR kindW (lnR objectW L)))).size ≤ _; rw [bs_size]; omega) (by show (bs ((lnR nameW (lnR kindW (lnR objectW L))).drop 1)).size ≤ _; rw [bs_size, List.length_drop]; omega))
  rw [lnV_eq] at HL1 HL2 HL3
  have kr := kn_range (lnT kindW (lnR objectW L))
  have hdt : dTt L = ⟨unhB (lnT objectW L), kn (lnT kindW (lnR objectW L)), bs (lnT nameW (lnR kindW (lnR objectW L))), bs ((lnR nameW (lnR kindW (lnR objectW L))).drop 1)⟩ := rfl
  obtain ⟨o1, ho1⟩ : ∃ o, tkO objectW L = o := ⟨_, rfl⟩
  obtain ⟨o2, ho2⟩ : ∃ o, tkO kindW (lnR objectW L) = o := ⟨_, rfl⟩
  obtain ⟨o3, ho3⟩ : ∃ o, tkO nameW (lnR kindW (lnR objectW L)) = o := ⟨_, rfl⟩
  obtain ⟨r3, hr3e⟩ : ∃ r, lnR nameW (lnR kindW (lnR objectW L)) = r := ⟨_, rfl⟩
  obtain ⟨kk, hkk⟩ : ∃ k, kn (lnT kindW (lnR objectW L)) = k := ⟨_, rfl⟩
  obtain ⟨U, hU⟩ : ∃ U, unhB (lnT objectW L) = U := ⟨_, rfl⟩
  obtain ⟨io, hio⟩ : ∃ io, idO (lnT objectW L) = io := ⟨_, rfl⟩
  obtain ⟨A, hA⟩ : ∃ A, bs (lnT objectW L) = A := ⟨_, rfl⟩
  obtain ⟨B, hB⟩ : ∃ B, bs (lnT kindW (lnR objectW L)) = B := ⟨_, rfl⟩
  obtain ⟨C, hC⟩ : ∃ C, bs (lnT nameW (lnR kindW (lnR objectW L))) = C := ⟨_, rfl⟩
  obtain ⟨S1, hS1⟩ : ∃ S, bs (lnR objectW L) = S := ⟨_, rfl⟩
  obtain ⟨S2, hS2⟩ : ∃ S, bs (lnR kindW (lnR objectW L)) = S := ⟨_, rfl⟩
  rw [hU, hkk, hC, hr3e] at hdt
  rw [hdt] at HGT HCT
  rw [ho1, ho2, ho3, hr3e] at HGT
  rw [ho1, hA, hS1] at HL1
  rw [ho2, hB, hS1, hS2] at HL2
  rw [ho3, hC, hS2, hr3e] at HL3
  rw [hA, hU, hio] at HID
  rw [hB, hkk] at HQ
  rw [hkk] at kr
  rw [hr3e] at hr3
  unfold tgV at HCT
  simp only at HCT HGT
  clear hdt ho1 ho2 ho3 hr3e hkk hU hio hA hB hC hS1 hS2
  obtain ⟨S, hS⟩ : ∃ S, bs L = S := ⟨_, rfl⟩
  rw [hS] at HL1 ⊢
  clear hS
  have HB0 := hideIt (new_below w (.cells #[.string ⟨#[]⟩, .int .i64 0, .string ⟨#[]⟩, .string ⟨#[]⟩] 61))
  have HZ0 := hideIt (TBox.new w 61 tgZ)
  go_enter Tryz.func22, Tryz.ntmps22
  go_wp2_with (first
    | (go_at_call_of 51 (Value.string ⟨#[111, 98, 106, 101, 99, 116]⟩); refine (HL1.out _).mono ?_; rintro e w1 ⟨rfl, hb1⟩)
    | (go_at_call_of 51 (Value.string ⟨#[107, 105, 110, 100]⟩); refine (HL2.out _).mono ?_; rintro e w2 ⟨rfl, hb2⟩)
    | (go_at_call_of 51 (Value.string ⟨#[110, 97, 109, 101]⟩); refine (HL3.out _).mono ?_; rintro e w3 ⟨rfl, hb3⟩))
  obtain ⟨M, hM⟩ : ∃ M, w3.heap.size = M := ⟨_, rfl⟩
  have HD := hideIt (DS.start (w0 := w) (below2 (below2 (below2 HB0.out hb1) hb2) hb3) (((HZ0.out.below hb1).below hb2).below hb3) C)
  rw [hM] at HD ⊢
  clear hM hb1 hb2 hb3 HB0 HZ0 HL1 HL2 HL3
  go_loopw [12] (fun t wr => ∃ i : Nat, 1 ≤ i ∧ i ≤ 5 ∧ t = .int .i64 i ∧ DS w M ⟨⟨#[]⟩, if kk < (i : Int) then kk else 0, C, ⟨#[]⟩⟩ wr) (fun t _ => 5 - (intOf t).toNat)
  case atStart => exact ⟨1, by omega, by omega, rfl, by rw [show (if kk < ((1 : Nat) : Int) then kk else 0) = 0 by split <;> omega]; exact HD.out⟩
  case round =>
    obtain ⟨i, hi1, hi5, rfl, hds⟩ := hrel
    have HG := hideIt hds
    clear hds HD
    by_cases hlt : i < 5
    · have i1 : decide ((i : Int) < 5) = true := decide_eq_true (by omega)
      have HKI := hideIt (HK.out i (by omega))
      have hq := HQ.out i (by omega)
      obtain ⟨kv, hkv⟩ : ∃ kv, (if kk < (i : Int) then kk else 0) = kv := ⟨_, rfl⟩
      rw [hkv] at HG
      by_cases hki : kk = (i : Int)
      · rw [decide_eq_true hki] at hq
        go_wp2_with (first | (go_at_call 27; refine (HKI.out _).mono ?_; rintro e w5 ⟨rfl, hb5⟩; have G5 := hideIt (HG.out.below hb5); have c1 := G5.out.tb.c1; have f1 := G5.out.tb.f1))
        go_roundw
        case rel =>
          refine ⟨i + 1, by omega, by omega, by go_num, ?_⟩
          rw [if_pos (by omega), hki]
          exact G5.out.set1 _
        case measure => simp [intOf]; omega
      · rw [decide_eq_false hki] at hq
        go_wp2_with (first | (go_at_call 27; refine (HKI.out _).mono ?_; rintro e w5 ⟨rfl, hb5⟩; have G5 := hideIt (HG.out.below hb5)))
        go_roundw
        case rel =>
          refine ⟨i + 1, by omega, by omega, by go_num, ?_⟩
          rw [show (if kk < ((i + 1 : Nat) : Int) then kk else 0) = kv by rw [← hkv]; split <;> split <;> omega]
          exact G5.out
        case measure => simp [intOf]; omega
    · obtain rfl : i = 5 := by omega
      have i1 : decide (((5 : Nat) : Int) < 5) = false := by decide
      rw [if_pos (by omega)] at HG
      cases o1 with
      | false =>
        have hg : gT L = (tgZ, 6) := by rw [HGT.out]; rw [if_neg (by simp_all)]
        go_wp2_with (first | (go_at_call 52; refine (HID.out _).mono ?_; rintro e w6 ⟨rfl, hb6⟩; have G6 := hideIt (HG.out.below hb6); have c0 := G6.out.tb.c0; have f0 := G6.out.tb.f0; have c1 := G6.out.tb.c1; have c2 := G6.out.tb.c2; have c3 := G6.out.tb.c3; have f3 := G6.out.tb.f3; have e0 := G6.out.res.c0; have e1 := G6.out.res.c1; have e2 := G6.out.res.c2; have e3 := G6.out.res.c3; have g0 := G6.out.res.f0; have g1 := G6.out.res.f1; have g2 := G6.out.res.f2; have g3 := G6.out.res.f3; have hn1 : ¬ M = w.heap.size := (by have := G6.out.far; omega); have hn2 : ¬ w.heap.size = M := (by have := G6.out.far; omega); dsimp only [tgZ] at c0 c1 c2 c3 e0 e1 e2 e3))
        refine bodyPost_ret (v := .tuple #[tgV tgZ, .int .i64 6]) ?_ rfl ⟨by rw [hg], ?_⟩
        · rw [results_c2 rfl]
          go_simp
          rfl
        · exact put4 (G6.out.set0 _).bel _ _ _ _
      | true =>
        cases o2 with
        | false =>
          have hg : gT L = (tgZ, 6) := by rw [HGT.out]; rw [if_neg (by simp_all)]
          go_wp2_with (first | (go_at_call 52; refine (HID.out _).mono ?_; rintro e w6 ⟨rfl, hb6⟩; have G6 := hideIt (HG.out.below hb6); have c0 := G6.out.tb.c0; have f0 := G6.out.tb.f0; have c1 := G6.out.tb.c1; have c2 := G6.out.tb.c2; have c3 := G6.out.tb.c3; have f3 := G6.out.tb.f3; have e0 := G6.out.res.c0; have e1 := G6.out.res.c1; have e2 := G6.out.res.c2; have e3 := G6.out.res.c3; have g0 := G6.out.res.f0; have g1 := G6.out.res.f1; have g2 := G6.out.res.f2; have g3 := G6.out.res.f3; have hn1 : ¬ M = w.heap.size := (by have := G6.out.far; omega); have hn2 : ¬ w.heap.size = M := (by have := G6.out.far; omega); dsimp only [tgZ] at c0 c1 c2 c3 e0 e1 e2 e3))
          refine bodyPost_ret (v := .tuple #[tgV tgZ, .int .i64 6]) ?_ rfl ⟨by rw [hg], ?_⟩
          · rw [results_c2 rfl]
            go_simp
            rfl
          · exact put4 (G6.out.set0 _).bel _ _ _ _
        | true =>
          cases o3 with
          | false =>
            have hg : gT L = (tgZ, 6) := by rw [HGT.out]; rw [if_neg (by simp_all)]
            go_wp2_with (first | (go_at_call 52; refine (HID.out _).mono ?_; rintro e w6 ⟨rfl, hb6⟩; have G6 := hideIt (HG.out.below hb6); have c0 := G6.out.tb.c0; have f0 := G6.out.tb.f0; have c1 := G6.out.tb.c1; have c2 := G6.out.tb.c2; have c3 := G6.out.tb.c3; have f3 := G6.out.tb.f3; have e0 := G6.out.res.c0; have e1 := G6.out.res.c1; have e2 := G6.out.res.c2; have e3 := G6.out.res.c3; have g0 := G6.out.res.f0; have g1 := G6.out.res.f1; have g2 := G6.out.res.f2; have g3 := G6.out.res.f3; have hn1 : ¬ M = w.heap.size := (by have := G6.out.far; omega); have hn2 : ¬ w.heap.size = M := (by have := G6.out.far; omega); dsimp only [tgZ] at c0 c1 c2 c3 e0 e1 e2 e3))
            refine bodyPost_ret (v := .tuple #[tgV tgZ, .int .i64 6]) ?_ rfl ⟨by rw [hg], ?_⟩
            · rw [results_c2 rfl]
              go_simp
              rfl
            · exact put4 (G6.out.set0 _).bel _ _ _ _
          | true =>
            rcases tx_cases r3 with ⟨hr, ht⟩ | ⟨c, r, hr, hc, ht⟩ | ⟨r, hr, ht⟩
            · rw [ht] at HGT
              have z0 : ((bs r3).size : Int) = 0 := by rw [hr]; rfl
              obtain ⟨S3, hS3⟩ : ∃ S, bs r3 = S := ⟨_, rfl⟩
              rw [hS3] at z0 ⊢
              clear hr hr3 hS3
              have hg : gT L = (tgZ, 6) := by rw [HGT.out]; rw [if_neg (by simp_all)]
              go_wp2_with (first | (go_at_call 52; refine (HID.out _).mono ?_; rintro e w6 ⟨rfl, hb6⟩; have G6 := hideIt (HG.out.below hb6); have c0 := G6.out.tb.c0; have f0 := G6.out.tb.f0; have c1 := G6.out.tb.c1; have c2 := G6.out.tb.c2; have c3 := G6.out.tb.c3; have f3 := G6.out.tb.f3; have e0 := G6.out.res.c0; have e1 := G6.out.res.c1; have e2 := G6.out.res.c2; have e3 := G6.out.res.c3; have g0 := G6.out.res.f0; have g1 := G6.out.res.f1; have g2 := G6.out.res.f2; have g3 := G6.out.res.f3; have hn1 : ¬ M = w.heap.size := (by have := G6.out.far; omega); have hn2 : ¬ w.heap.size = M := (by have := G6.out.far; omega); dsimp only [tgZ] at c0 c1 c2 c3 e0 e1 e2 e3))
              refine bodyPost_ret (v := .tuple #[tgV tgZ, .int .i64 6]) ?_ rfl ⟨by rw [hg], ?_⟩
              · rw [results_c2 rfl]
                go_simp
                rfl
              · exact put4 (G6.out.set0 _).bel _ _ _ _
            · rw [ht] at HGT
              obtain ⟨S3, hS3, z0, z5⟩ : ∃ S, bs r3 = S ∧ ∃ h : 0 < S.size, S[0]'h = c := ⟨bs r3, rfl, by rw [hr, bs_size]; simp, by subst hr; rfl⟩
              have z1 : (0 : Int) < (S3.size : Int) := by omega
              have z3 : ¬ (S3.size : Int) = 0 := by omega
              have z2 : ((S3.size : Int) == 0) = false := beq_eq_false_iff_ne.2 z3
              have z4 : ((c.toNat : Int) != 10) = true := by
                have h10 : (10 : UInt8).toNat = 10 := rfl
                have : ¬ (c.toNat : Int) = 10 := fun e => hc (UInt8.toNat_inj.1 (by omega))
                simpa using this
              rw [hS3]
              clear hr hr3 hS3
              have hg : gT L = (tgZ, 6) := by rw [HGT.out]; rw [if_neg (by simp_all)]
              go_wp2_with (first | (go_at_call 52; refine (HID.out _).mono ?_; rintro e w6 ⟨rfl, hb6⟩; have G6 := hideIt (HG.out.below hb6); have c0 := G6.out.tb.c0; have f0 := G6.out.tb.f0; have c1 := G6.out.tb.c1; have c2 := G6.out.tb.c2; have c3 := G6.out.tb.c3; have f3 := G6.out.tb.f3; have e0 := G6.out.res.c0; have e1 := G6.out.res.c1; have e2 := G6.out.res.c2; have e3 := G6.out.res.c3; have g0 := G6.out.res.f0; have g1 := G6.out.res.f1; have g2 := G6.out.res.f2; have g3 := G6.out.res.f3; have hn1 : ¬ M = w.heap.size := (by have := G6.out.far; omega); have hn2 : ¬ w.heap.size = M := (by have := G6.out.far; omega); dsimp only [tgZ] at c0 c1 c2 c3 e0 e1 e2 e3))
              refine bodyPost_ret (v := .tuple #[tgV tgZ, .int .i64 6]) ?_ rfl ⟨by rw [hg], ?_⟩
              · rw [results_c2 rfl]
                go_simp
                rfl
              · exact put4 (G6.out.set0 _).bel _ _ _ _
            · rw [ht] at HGT
              obtain ⟨S3, hS3, z0, z5⟩ : ∃ S, bs r3 = S ∧ ∃ h : 0 < S.size, S[0]'h = 10 := ⟨bs r3, rfl, by rw [hr, bs_size]; simp, by subst hr; rfl⟩
              have z6 : (bs r3).extract 1 (bs r3).size = bs (r3.drop 1) := by
                rw [bs_extract, bs_size]
                congr 1
                apply List.take_of_length_le
                simp
              obtain ⟨X, hX⟩ : ∃ X, bs (r3.drop 1) = X := ⟨_, rfl⟩
              rw [hX] at HGT HCT z6
              rw [hS3] at z6 ⊢
              have z1 : (0 : Int) < (S3.size : Int) := by omega
              have z3 : ¬ (S3.size : Int) = 0 := by omega
              have z2 : ((S3.size : Int) == 0) = false := beq_eq_false_iff_ne.2 z3
              have z7 : (1 : Int) ≤ (S3.size : Int) := by omega
              have z8 : ((S3[0]'z0).toNat : Int) = 10 := by rw [z5]; rfl
              clear hr hr3 hS3 hX z5
              by_cases hk0 : kk = 0
              · subst hk0
                have k1 : ((0 : Int) == 0) = true := rfl
                have hg : gT L = (tgZ, 6) := by rw [HGT.out]; rw [if_neg (by simp_all)]
                go_wp2_with (first | (go_at_call 52; refine (HID.out _).mono ?_; rintro e w6 ⟨rfl, hb6⟩; have G6 := hideIt (HG.out.below hb6); have c0 := G6.out.tb.c0; have f0 := G6.out.tb.f0; have c1 := G6.out.tb.c1; have c2 := G6.out.tb.c2; have c3 := G6.out.tb.c3; have f3 := G6.out.tb.f3; have e0 := G6.out.res.c0; have e1 := G6.out.res.c1; have e2 := G6.out.res.c2; have e3 := G6.out.res.c3; have g0 := G6.out.res.f0; have g1 := G6.out.res.f1; have g2 := G6.out.res.f2; have g3 := G6.out.res.f3; have hn1 : ¬ M = w.heap.size := (by have := G6.out.far; omega); have hn2 : ¬ w.heap.size = M := (by have := G6.out.far; omega); dsimp only [tgZ] at c0 c1 c2 c3 e0 e1 e2 e3))
                refine bodyPost_ret (v := .tuple #[tgV tgZ, .int .i64 6]) ?_ rfl ⟨by rw [hg], ?_⟩
                · rw [results_c2 rfl]
                  go_simp
                  rfl
                · exact put4 (G6.out.set0 _).bel _ _ _ _
              · have k1 : (kk == 0) = false := by simpa using hk0
                by_cases hU : U.size = 32
                · have u1 : ((U.size : Int) != 32) = false := by simp; omega
                  have u2 : (U.size : Int) = 32 := by omega
                  rw [if_pos (by simp_all)] at HGT
                  obtain ⟨z, hz⟩ : ∃ z, tagE ⟨U, kk, C, X⟩ = z := ⟨_, rfl⟩
                  rw [hz] at HCT HGT
                  clear hz
                  by_cases hz0 : z = 0
                  · subst hz0
                    rw [if_pos rfl] at HGT
                    go_wp2_with (first | (go_at_call 52; refine (HID.out _).mono ?_; rintro e w6 ⟨rfl, hb6⟩; have G6 := hideIt (HG.out.below hb6); have c0 := G6.out.tb.c0; have f0 := G6.out.tb.f0; have c1 := G6.out.tb.c1; have c2 := G6.out.tb.c2; have c3 := G6.out.tb.c3; have f3 := G6.out.tb.f3; have e0 := G6.out.res.c0; have e1 := G6.out.res.c1; have e2 := G6.out.res.c2; have e3 := G6.out.res.c3; have g0 := G6.out.res.f0; have g1 := G6.out.res.f1; have g2 := G6.out.res.f2; have g3 := G6.out.res.f3; have hn1 : ¬ M = w.heap.size := (by have := G6.out.far; omega); have hn2 : ¬ w.heap.size = M := (by have := G6.out.far; omega); dsimp only [tgZ] at c0 c1 c2 c3 e0 e1 e2 e3) | (go_at_call 55; refine (HCT.out _).mono ?_; rintro e w7 ⟨rfl, hb7⟩; have G7 := hideIt (((G6.out.set0 _).set3 _).below hb7); have d0 := G7.out.tb.c0; have d1 := G7.out.tb.c1; have d2 := G7.out.tb.c2; have d3 := G7.out.tb.c3; have x0 := G7.out.res.c0; have x1 := G7.out.res.c1; have x2 := G7.out.res.c2; have x3 := G7.out.res.c3; have y0 := G7.out.res.f0; have y1 := G7.out.res.f1; have y2 := G7.out.res.f2; have y3 := G7.out.res.f3; dsimp only [tgZ] at d0 d1 d2 d3 x0 x1 x2 x3))
                    refine bodyPost_ret (v := .tuple #[tgV ⟨U, kk, C, X⟩, .int .i64 0]) ?_ rfl ⟨by rw [HGT.out], ?_⟩
                    · rw [results_c2 rfl]
                      go_simp
                      rfl
                    · exact put4 G7.out.bel _ _ _ _
                  · have q1 : (z != 0) = true := by simpa using hz0
                    rw [if_neg hz0] at HGT
                    go_wp2_with (first | (go_at_call 52; refine (HID.out _).mono ?_; rintro e w6 ⟨rfl, hb6⟩; have G6 := hideIt (HG.out.below hb6); have c0 := G6.out.tb.c0; have f0 := G6.out.tb.f0; have c1 := G6.out.tb.c1; have c2 := G6.out.tb.c2; have c3 := G6.out.tb.c3; have f3 := G6.out.tb.f3; have e0 := G6.out.res.c0; have e1 := G6.out.res.c1; have e2 := G6.out.res.c2; have e3 := G6.out.res.c3; have g0 := G6.out.res.f0; have g1 := G6.out.res.f1; have g2 := G6.out.res.f2; have g3 := G6.out.res.f3; have hn1 : ¬ M = w.heap.size := (by have := G6.out.far; omega); have hn2 : ¬ w.heap.size = M := (by have := G6.out.far; omega); dsimp only [tgZ] at c0 c1 c2 c3 e0 e1 e2 e3) | (go_at_call 55; refine (HCT.out _).mono ?_; rintro e w7 ⟨rfl, hb7⟩; have G7 := hideIt (((G6.out.set0 _).set3 _).below hb7); have d0 := G7.out.tb.c0; have d1 := G7.out.tb.c1; have d2 := G7.out.tb.c2; have d3 := G7.out.tb.c3; have x0 := G7.out.res.c0; have x1 := G7.out.res.c1; have x2 := G7.out.res.c2; have x3 := G7.out.res.c3; have y0 := G7.out.res.f0; have y1 := G7.out.res.f1; have y2 := G7.out.res.f2; have y3 := G7.out.res.f3; dsimp only [tgZ] at d0 d1 d2 d3 x0 x1 x2 x3))
                    refine bodyPost_ret (v := .tuple #[tgV tgZ, .int .i64 z]) ?_ rfl ⟨by rw [HGT.out], ?_⟩
                    · rw [results_c2 rfl]
                      go_simp
                      rfl
                    · exact put4 G7.out.bel _ _ _ _
                · have u1 : ((U.size : Int) != 32) = true := by simp; omega
                  have u2 : ¬ (U.size : Int) = 32 := by omega
                  have hg : gT L = (tgZ, 6) := by rw [HGT.out]; rw [if_neg (by simp_all)]
                  go_wp2_with (first | (go_at_call 52; refine (HID.out _).mono ?_; rintro e w6 ⟨rfl, hb6⟩; have G6 := hideIt (HG.out.below hb6); have c0 := G6.out.tb.c0; have f0 := G6.out.tb.f0; have c1 := G6.out.tb.c1; have c2 := G6.out.tb.c2; have c3 := G6.out.tb.c3; have f3 := G6.out.tb.f3; have e0 := G6.out.res.c0; have e1 := G6.out.res.c1; have e2 := G6.out.res.c2; have e3 := G6.out.res.c3; have g0 := G6.out.res.f0; have g1 := G6.out.res.f1; have g2 := G6.out.res.f2; have g3 := G6.out.res.f3; have hn1 : ¬ M = w.heap.size := (by have := G6.out.far; omega); have hn2 : ¬ w.heap.size = M := (by have := G6.out.far; omega); dsimp only [tgZ] at c0 c1 c2 c3 e0 e1 e2 e3))
                  refine bodyPost_ret (v := .tuple #[tgV tgZ, .int .i64 6]) ?_ rfl ⟨by rw [hg], ?_⟩
                  · rw [results_c2 rfl]
                    go_simp
                    rfl
                  · exact put4 (G6.out.set0 _).bel _ _ _ _
end Ob
end Go.Proofs.YtmjffngpaoaflaaGreatDoor
