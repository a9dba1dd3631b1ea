/- Refs: the law RefsBytes: walked. -/
import Derived.Test.YtecdjejemohkgaaRfAw
import Derived.Test.YtecdjejemohkgaaRfRg
import Derived.Test.YtecdjejemohkgaaRfRv
import Derived.Test.YtecdjejemohkgaaRfRt
namespace Go.Proofs.Ytecdjejemohkgaa.Rf
open Cb Go.RowKit Go.Shelf
/-- Two boxes of the same refs, the program's and the document's. -/
structure BM (w0 : World) (b5 b6 : Nat) (hd : ByteArray) (v5 v6 : Value) (l : List Rf) (w : World) : Prop where
  bel : Below w0.heap.size w0 w
  c5 : w.heap[b5]? = some (.cells #[.string hd, v5] 24 (0, 0))
  c6 : w.heap[b6]? = some (.cells #[.string hd, v6] 30 (0, 0))
  r5 : RRow w v5 l
  r6 : RRow w v6 l
theorem BM.below {w0 w w' : World} {b5 b6 : Nat} {hd : ByteArray} {v5 v6 : Value} {l : List Rf} (h : BM w0 b5 b6 hd v5 v6 l w) (hb : Below w.heap.size w w') : BM w0 b5 b6 hd v5 v6 l w' :=
  ⟨below_step h.bel (Nat.le_refl _) hb, (hb.block _ (block_lt h.c5)).trans h.c5, (hb.block _ (block_lt h.c6)).trans h.c6, h.r5.below hb, h.r6.below hb⟩
theorem row_slice {w : World} {v : Value} {l : List Rf} (h : RRow w v l) : ∃ a c, v = .slice a l.length c := by
  obtain ⟨_, a, c, e, _⟩ := h
  exact ⟨a, c, e⟩
set_option maxHeartbeats 6400000 in
set_option maxRecDepth 100000 in
theorem bytes_law (hd : ByteArray) (v0 : Value) (l0 : List Rf) (nm : ByteArray) (w : World) (h : RRow w v0 l0) (hz : hd.size ≤ 9223372036854775807) (hzs : ∀ (i : Nat) (x : Rf), l0[i]? = some x → x.nm.size ≤ 9223372036854775807) (hm : MaxR w) (haw : ∀ w, Calls Try.prog 12 #[] w fun e w' => e = .returned (.bool true) ∧ Below w.heap.size w w') :
    Calls Try.prog 4 #[.agg #[.string hd, v0], .string nm] w fun e w' => e = .returned (.bool true) ∧ Below w.heap.size w w' := by
  obtain ⟨W, hW⟩ : ∃ W, w.alloc (.cells #[.string hd, v0] 24) = W := ⟨_, rfl⟩
  have hb : Below w.heap.size w W := by rw [← hW]; exact new_below w _
  have hx0 : W.heap[w.heap.size]? = some (.cells #[.string hd, v0] 24 (0, 0)) := by rw [← hW]; exact alloc_at rfl
  have x0 := cellAt (i := 0) hx0 rfl
  have x1 := cellAt (i := 1) hx0 rfl
  have HW := hideIt hW
  have HB := hideIt hb
  have HCUT := hideIt (cut_any hd v0 l0 W (h.below hb))
  obtain ⟨l, hl⟩ : ∃ l, l0.take 260 = l := ⟨_, rfl⟩
  have hll : l.length ≤ 260 := by rw [← hl, List.length_take]; omega
  have hlz : ∀ (i : Nat) (x : Rf), l[i]? = some x → x.nm.size ≤ 9223372036854775807 := fun i x hi => by
    rw [← hl, List.getElem?_take] at hi
    split at hi
    · exact hzs i x hi
    · cases hi
  rw [hl] at HCUT
  obtain ⟨n, hn⟩ : ∃ n, l.length = n := ⟨_, rfl⟩
  have HN := hideIt hn
  obtain ⟨z, hzz⟩ : ∃ z, chkR hd l = z := ⟨_, rfl⟩
  have HZ := hideIt hzz
  have HREF := hideIt (fun (X : World) (v : Value) (hr : RRow X v l) => ref_of hd v l X hr (by omega))
  have HRCK : Hid (∀ (X : World) (v : Value), RRow X v l → Calls Try.prog 14 #[.agg #[.string hd, v]] X fun e w' => e = .returned (.int .i64 z) ∧ Below X.heap.size X w') := hideIt (fun X v hr => by rw [← hzz]; exact refcheck_any hd v l X hr (by omega) hz hlz)
  have HCK : Hid (∀ (X : World) (v : Value), RRow X v l → Calls Try.prog 16 #[.agg #[.string hd, v]] X fun e w' => e = .returned (.int .i64 z) ∧ Below X.heap.size X w') := hideIt (fun X v hr => by rw [← hzz]; exact check_any hd v l X hr (by omega))
  obtain ⟨EV, hEV⟩ : ∃ EV, encV hd l = EV := ⟨_, rfl⟩
  have HEV := hideIt hEV
  have HENC : Hid (∀ (X : World) (v : Value), RRow X v l → Calls Try.prog 15 #[.agg #[.string hd, v]] X fun e w' => e = .returned (.tuple #[.string EV, .int .i64 z]) ∧ Below X.heap.size X w') := hideIt (fun X v hr => by rw [← hzz, ← hEV]; exact encode_any hd v l X hr (by omega))
  have HAW := hideIt haw
  have HCT : Hid (∀ e w', CutTo W hd l e w' ↔ ∃ a c, e = .returned (.agg #[.string hd, .slice a n c]) ∧ RRow w' (.slice a n c) l ∧ Below W.heap.size W w') := hideIt (fun e w' => ⟨fun ⟨v, e1, h1, h2⟩ => by
    obtain ⟨a, c, hv⟩ := row_slice h1
    rw [hn] at hv
    subst hv
    exact ⟨a, c, e1, h1, h2⟩, fun ⟨a, c, e1, h1, h2⟩ => ⟨_, e1, h1, h2⟩⟩)
  have HRT : Hid (∀ X e w', RefTo X hd l e w' ↔ ∃ a c, e = .returned (.agg #[.string hd, .slice a n c]) ∧ RRow w' (.slice a n c) l ∧ Below X.heap.size X w') := hideIt (fun X e w' => ⟨fun ⟨v, e1, h1, h2⟩ => by
    obtain ⟨a, c, hv⟩ := row_slice h1
    rw [hn] at hv
    subst hv
    exact ⟨a, c, e1, h1, h2⟩, fun ⟨a, c, e1, h1, h2⟩ => ⟨_, e1, h1, h2⟩⟩)
  have HMX := hideIt hm
  clear haw hW hb hx0 h hl hzz hEV hz hzs hlz hm hn
  by_cases h0 : z = 0
  · subst h0
    have HEQ : Hid (EV = Cb.bs (encL hd l)) := hideIt (by rw [← HEV.out, encV, if_pos HZ.out])
    have hsz : (encL hd l).length ≤ 1000000 := by
      obtain ⟨a1, a2, a3, a4⟩ := chkR_wf HZ.out
      have := encL_len hd a2 l a4
      omega
    have HRENC : Hid (∀ (X : World) (v : Value), RRow X v l → Calls Try.prog 18 #[.agg #[.string hd, v]] X fun e w' => e = .returned (.string EV) ∧ Below X.heap.size X w') := hideIt (fun X v hr => by rw [HEQ.out]; exact refencode_any hd v l X hr HZ.out)
    have HDEC : Hid (∀ (X : World), MaxR X → Calls Try.prog 17 #[.string EV] X fun e w' => ∃ a c, e = .returned (.tuple #[.agg #[.string hd, .slice a n c], .int .i64 0]) ∧ RRow w' (.slice a n c) l ∧ Below X.heap.size X w') := hideIt (fun X hX => by
      rw [HEQ.out]
      refine (decode_any (encL hd l) X hsz hX).mono ?_
      rintro e w' ⟨v, e1, h1, h2⟩
      rw [dec_enc hd l HZ.out] at e1 h1
      simp only [Cb.bs_data] at e1 h1
      obtain ⟨a, c, hv⟩ := row_slice h1
      rw [HN.out] at hv
      subst hv
      exact ⟨a, c, e1, h1, h2⟩)
    have HSAME : Hid (∀ (X : World) (v v2 : Value), RRow X v l → RRow X v2 l → Calls Try.prog 13 #[.agg #[.string hd, v], .agg #[.string hd, v2]] X fun e w' => e = .returned (.bool true) ∧ Below X.heap.size X w') := hideIt (fun X v v2 h1 h2 => by
      refine (same_any hd hd v v2 l l X h1 h2 (by omega) (by omega)).mono ?_
      rintro e w' ⟨rfl, hb⟩
      exact ⟨by simp, hb⟩)
    obtain ⟨G, hG⟩ : ∃ G, getR l nm = G := ⟨_, rfl⟩
    have HGET : Hid (∀ (X : World) (v : Value), RRow X v l → Calls Try.prog 19 #[.agg #[.string hd, v], .string nm] X fun e w' => e = .returned (.string G) ∧ Below X.heap.size X w') := hideIt (fun X v hr => by
      rw [← hG]
      exact get_any hd v l nm X hr (by omega) (fun i x hi => by have := ((chkR_wf HZ.out).2.2.2 x (List.mem_of_getElem? hi)).2; omega))
    have HRGET : Hid (∀ (X : World) (v : Value), RRow X v l → Calls Try.prog 20 #[.agg #[.string hd, v], .string nm] X fun e w' => e = .returned (.string G) ∧ Below X.heap.size X w') := hideIt (fun X v hr => by
      rw [← hG]
      exact refget_any hd v l nm X hr (by omega))
    clear hsz hG
    go_enter Try.func4, Try.ntmps4
    go_wp2_with (first
      | (go_at_call 6; rw [HW.out]; refine HCUT.out.mono ?_; intro e w1 hq; obtain ⟨a5, c5, he, hr1, hb1⟩ := (HCT.out _ _).1 hq; subst he; have R1 := hideIt (hr1.below (new_below w1 (.cells #[.string hd, .slice a5 n c5] 24))); have B1 := hideIt (below_step hb1 (Nat.le_refl _) (new_below w1 (.cells #[.string hd, .slice a5 n c5] 24))); clear hq hr1 hb1)
      | (go_at_call 7; refine (HREF.out _ _ R1.out).mono ?_; intro e w2 hq; obtain ⟨a6, c6, he, hr2, hb2⟩ := (HRT.out _ _ _).1 hq; subst he; have M2 : Hid (BM W w1.heap.size w2.heap.size hd (.slice a5 n c5) (.slice a6 n c6) l (w2.alloc (.cells #[.string hd, .slice a6 n c6] 30))) := hideIt ⟨below_step (below_step B1.out (Nat.le_refl _) hb2) (Nat.le_refl _) (new_below w2 _), ((new_below w2 _).block _ (by have := hb2.size; simp at this; omega)).trans ((hb2.block _ (by simp)).trans (alloc_at rfl)), alloc_at rfl, (R1.out.below hb2).below (new_below w2 _), hr2.below (new_below w2 _)⟩; have p2 := cellAt (i := 0) M2.out.c5 rfl; have q2 := cellAt (i := 1) M2.out.c5 rfl; have s2 := cellAt (i := 0) M2.out.c6 rfl; have t2 := cellAt (i := 1) M2.out.c6 rfl; clear hq hr2 hb2)
      | (go_at_call 14; refine (HRCK.out _ _ M2.out.r6).mono ?_; rintro e w3 ⟨rfl, hb3⟩; have M3 := hideIt (M2.out.below hb3); have p3 := cellAt (i := 0) M3.out.c5 rfl; have q3 := cellAt (i := 1) M3.out.c5 rfl; have s3 := cellAt (i := 0) M3.out.c6 rfl; have t3 := cellAt (i := 1) M3.out.c6 rfl; clear hb3)
      | (go_at_call 15; refine (HENC.out _ _ M3.out.r5).mono ?_; rintro e w4 ⟨rfl, hb4⟩; have M4 := hideIt (M3.out.below hb4); have p4 := cellAt (i := 0) M4.out.c5 rfl; have q4 := cellAt (i := 1) M4.out.c5 rfl; have s4 := cellAt (i := 0) M4.out.c6 rfl; have t4 := cellAt (i := 1) M4.out.c6 rfl; clear hb4)
      | (go_at_call 12; refine (HAW.out _).mono ?_; rintro e w5 ⟨rfl, hb5⟩; have M5 := hideIt (M4.out.below hb5); have p5 := cellAt (i := 0) M5.out.c5 rfl; have q5 := cellAt (i := 1) M5.out.c5 rfl; have s5 := cellAt (i := 0) M5.out.c6 rfl; have t5 := cellAt (i := 1) M5.out.c6 rfl; clear hb5)
      | (go_at_call 16; refine (HCK.out _ _ M5.out.r5).mono ?_; rintro e w6 ⟨rfl, hb6⟩; have M6 := hideIt (M5.out.below hb6); have p6 := cellAt (i := 0) M6.out.c5 rfl; have q6 := cellAt (i := 1) M6.out.c5 rfl; have s6 := cellAt (i := 0) M6.out.c6 rfl; have t6 := cellAt (i := 1) M6.out.c6 rfl; clear hb6)
      | (go_at_call 17; refine (HDEC.out _ (HMX.out.below (below_step HB.out (Nat.le_refl _) M6.out.bel))).mono ?_; rintro e w7 ⟨a10, c10, rfl, hr7, hb7⟩; have M7 := hideIt (M6.out.below hb7); have R7 := hideIt hr7; clear hb7 hr7))
    obtain ⟨b5, hb5⟩ : ∃ b, w1.heap.size = b := ⟨_, rfl⟩
    obtain ⟨b6, hb6⟩ : ∃ b, w2.heap.size = b := ⟨_, rfl⟩
    obtain ⟨b10, hb10⟩ : ∃ b, w7.heap.size = b := ⟨_, rfl⟩
    obtain ⟨Y, hY⟩ : ∃ Y, w7.alloc (.cells #[.string hd, .slice a10 n c10] 24) = Y := ⟨_, rfl⟩
    have h10 : Y.heap[b10]? = some (.cells #[.string hd, .slice a10 n c10] 24 (0, 0)) := by rw [← hY, ← hb10]; exact alloc_at rfl
    have hbY : Below w7.heap.size w7 Y := by rw [← hY]; exact new_below w7 _
    rw [hb5, hb6] at M7
    rw [hY, hb5, hb6, hb10]
    have HSC : Hid (∀ X, Below Y.heap.size Y X → X.cell? ⟨b5, 0, none⟩ = some (.string hd) ∧ X.cell? ⟨b5, 1, none⟩ = some (.slice a5 n c5) ∧ X.cell? ⟨b6, 0, none⟩ = some (.string hd) ∧ X.cell? ⟨b6, 1, none⟩ = some (.slice a6 n c6) ∧ X.cell? ⟨b10, 0, none⟩ = some (.string hd) ∧ X.cell? ⟨b10, 1, none⟩ = some (.slice a10 n c10)) := hideIt (fun X hX => by
      have M := M7.out.below (below_step hbY (Nat.le_refl _) hX)
      have h := (hX.block _ (block_lt h10)).trans h10
      exact ⟨cellAt M.c5 rfl, cellAt M.c5 rfl, cellAt M.c6 rfl, cellAt M.c6 rfl, cellAt h rfl, cellAt h rfl⟩)
    have HRW : Hid (∀ X, Below Y.heap.size Y X → RRow X (.slice a5 n c5) l ∧ RRow X (.slice a6 n c6) l ∧ RRow X (.slice a10 n c10) l) := hideIt (fun X hX => by
      have hw := below_step hbY (Nat.le_refl _) hX
      have M := M7.out.below hw
      exact ⟨M.r5, M.r6, R7.out.below hw⟩)
    have HYW : Hid (Below w.heap.size w Y) := hideIt (below_step (below_step HB.out (Nat.le_refl _) M7.out.bel) (Nat.le_refl _) hbY)
    have HDY : Hid (Below Y.heap.size Y Y.drew) := hideIt ⟨rfl, rfl, rfl, Nat.le_refl _, fun _ _ => rfl⟩
    clear hY h10 hbY hb5 hb6 hb10 x0 x1 p2 q2 s2 t2 p3 q3 s3 t3 p4 q4 s4 t4 p5 q5 s5 t5 p6 q6 s6 t6
    go_region_held3 (fun X => X.cell? ⟨b5, 0, none⟩ = some (.string hd) ∧ X.cell? ⟨b5, 1, none⟩ = some (.slice a5 n c5) ∧ X.cell? ⟨b6, 0, none⟩ = some (.string hd) ∧ X.cell? ⟨b6, 1, none⟩ = some (.slice a6 n c6) ∧ X.cell? ⟨b10, 0, none⟩ = some (.string hd) ∧ X.cell? ⟨b10, 1, none⟩ = some (.slice a10 n c10)) (first | exact HSC.out _ HDY.out | assumption | exact HSC.out _ B8.out | exact HSC.out _ B9.out | exact HSC.out _ B10.out | exact HSC.out _ B11.out | go_keep) (first
      | (go_at_call 18; refine (HRENC.out _ _ (HRW.out _ HDY.out).2.1).mono ?_; rintro e w8 ⟨rfl, hb8⟩; have B8 := hideIt (below_step HDY.out (Nat.le_refl _) hb8); clear hb8)
      | (go_at_call 13; refine (HSAME.out _ _ _ (HRW.out _ B8.out).2.2 (HRW.out _ B8.out).2.1).mono ?_; rintro e w9 ⟨rfl, hb9⟩; have B9 := hideIt (below_step B8.out (Nat.le_refl _) hb9); clear hb9)
      | (go_at_call 19; refine (HGET.out _ _ (HRW.out _ B9.out).1).mono ?_; rintro e w10 ⟨rfl, hb10⟩; have B10 := hideIt (below_step B9.out (Nat.le_refl _) hb10); clear hb10)
      | (go_at_call 20; refine (HRGET.out _ _ (HRW.out _ B10.out).2.1).mono ?_; rintro e w11 ⟨rfl, hb11⟩; have B11 := hideIt (below_step B10.out (Nat.le_refl _) hb11); clear hb11))
    all_goals go_wp2
    all_goals go_ret
    all_goals exact ⟨rfl, below_step HYW.out (Nat.le_refl _) B11.out⟩
  · have z2 : (z == 0) = false := by simpa using h0
    have HEQ : Hid (EV = ⟨#[]⟩) := hideIt (by rw [← HEV.out, encV, if_neg (by rw [HZ.out]; exact h0)])
    go_enter Try.func4, Try.ntmps4
    go_wp2_with (first
      | (go_at_call 6; rw [HW.out]; refine HCUT.out.mono ?_; intro e w1 hq; obtain ⟨a5, c5, he, hr1, hb1⟩ := (HCT.out _ _).1 hq; subst he; have R1 := hideIt (hr1.below (new_below w1 (.cells #[.string hd, .slice a5 n c5] 24))); have B1 := hideIt (below_step hb1 (Nat.le_refl _) (new_below w1 (.cells #[.string hd, .slice a5 n c5] 24))); clear hq hr1 hb1)
      | (go_at_call 7; refine (HREF.out _ _ R1.out).mono ?_; intro e w2 hq; obtain ⟨a6, c6, he, hr2, hb2⟩ := (HRT.out _ _ _).1 hq; subst he; have M2 : Hid (BM W w1.heap.size w2.heap.size hd (.slice a5 n c5) (.slice a6 n c6) l (w2.alloc (.cells #[.string hd, .slice a6 n c6] 30))) := hideIt ⟨below_step (below_step B1.out (Nat.le_refl _) hb2) (Nat.le_refl _) (new_below w2 _), ((new_below w2 _).block _ (by have := hb2.size; simp at this; omega)).trans ((hb2.block _ (by simp)).trans (alloc_at rfl)), alloc_at rfl, (R1.out.below hb2).below (new_below w2 _), hr2.below (new_below w2 _)⟩; have p2 := cellAt (i := 0) M2.out.c5 rfl; have q2 := cellAt (i := 1) M2.out.c5 rfl; have s2 := cellAt (i := 0) M2.out.c6 rfl; have t2 := cellAt (i := 1) M2.out.c6 rfl; clear hq hr2 hb2)
      | (go_at_call 14; refine (HRCK.out _ _ M2.out.r6).mono ?_; rintro e w3 ⟨rfl, hb3⟩; have M3 := hideIt (M2.out.below hb3); have p3 := cellAt (i := 0) M3.out.c5 rfl; have q3 := cellAt (i := 1) M3.out.c5 rfl; have s3 := cellAt (i := 0) M3.out.c6 rfl; have t3 := cellAt (i := 1) M3.out.c6 rfl; clear hb3)
      | (go_at_call 15; refine (HENC.out _ _ M3.out.r5).mono ?_; rintro e w4 ⟨rfl, hb4⟩; have M4 := hideIt (M3.out.below hb4); have p4 := cellAt (i := 0) M4.out.c5 rfl; have q4 := cellAt (i := 1) M4.out.c5 rfl; have s4 := cellAt (i := 0) M4.out.c6 rfl; have t4 := cellAt (i := 1) M4.out.c6 rfl; clear hb4)
      | (go_at_call 12; refine (HAW.out _).mono ?_; rintro e w5 ⟨rfl, hb5⟩; have M5 := hideIt (M4.out.below hb5); have p5 := cellAt (i := 0) M5.out.c5 rfl; have q5 := cellAt (i := 1) M5.out.c5 rfl; have s5 := cellAt (i := 0) M5.out.c6 rfl; have t5 := cellAt (i := 1) M5.out.c6 rfl; clear hb5)
      | (go_at_call 16; refine (HCK.out _ _ M5.out.r5).mono ?_; rintro e w6 ⟨rfl, hb6⟩; have M6 := hideIt (M5.out.below hb6); have p6 := cellAt (i := 0) M6.out.c5 rfl; have q6 := cellAt (i := 1) M6.out.c5 rfl; have s6 := cellAt (i := 0) M6.out.c6 rfl; have t6 := cellAt (i := 1) M6.out.c6 rfl; clear hb6)
      | (go_at_call 17; refine (HDEC.out _ (HMX.out.below (below_step HB.out (Nat.le_refl _) M6.out.bel))).mono ?_; rintro e w7 ⟨a10, c10, rfl, hr7, hb7⟩; have M7 := hideIt (M6.out.below hb7); have R7 := hideIt hr7; clear hb7 hr7))
    go_ret
    have ee : (⟨#[]⟩ : ByteArray).toList.isEmpty = true := (emp_is _).trans ((emp_iff _).2 rfl)
    refine ⟨congrArg Ending.returned ?_, below_step HB.out (Nat.le_refl _) M6.out.bel⟩
    show Value.bool EV.toList.isEmpty = _
    rw [HEQ.out, ee]
end Go.Proofs.Ytecdjejemohkgaa.Rf
