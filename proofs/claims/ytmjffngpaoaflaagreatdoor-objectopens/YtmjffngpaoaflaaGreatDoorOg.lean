/- A tag of a body, walked. -/
import Derived.Test.YtmjffngpaoaflaaGreatDoorOv
namespace Go.Proofs.YtmjffngpaoaflaaGreatDoor
namespace Ob
open Go.RowKit Go.Shelf
/-- The tag that a body's lines tell. -/
def gTt (L : List UInt8) : Tg := ⟨unhB (tkT objectW L), kn (tkT kindW (tkR L)), bs (tkT nameW (tkR (tkR L))), bs (txT (tkR (tkR (tkR L))))⟩
def knO (L : List UInt8) : Bool := !decide (kn L = 0)
def gTo (L : List UInt8) : Bool := tkO objectW L && idO (tkT objectW L) && (tkO kindW (tkR L) && knO (tkT kindW (tkR L))) && tkO nameW (tkR (tkR L)) && txO (tkR (tkR (tkR L)))
def gT (L : List UInt8) : Tg × Int := if gTo L = true then (if tagE (gTt L) = 0 then (gTt L, 0) else (tgZ, tagE (gTt L))) else (tgZ, 6)
theorem TBox.grown {w w' : World} {N M : Nat} {T : TypeId} {t : Tg} (h : TBox w N T t) (hg : w.grownBy w' (some M)) (hne : N ≠ M) : TBox w' N T t := ⟨(hg.block N h.lt (by simpa using hne)).trans h.blk⟩
theorem TBox.f0 {w : World} {N : Nat} {T : TypeId} {t : Tg} (h : TBox w N T t) : w.frozen? ⟨N, 0, none⟩ = false := Lib.frozen_of_heap h.blk 0
theorem TBox.f1 {w : World} {N : Nat} {T : TypeId} {t : Tg} (h : TBox w N T t) : w.frozen? ⟨N, 1, none⟩ = false := Lib.frozen_of_heap h.blk 1
theorem TBox.f2 {w : World} {N : Nat} {T : TypeId} {t : Tg} (h : TBox w N T t) : w.frozen? ⟨N, 2, none⟩ = false := Lib.frozen_of_heap h.blk 2
theorem TBox.f3 {w : World} {N : Nat} {T : TypeId} {t : Tg} (h : TBox w N T t) : w.frozen? ⟨N, 3, none⟩ = false := Lib.frozen_of_heap h.blk 3
theorem TBox.set1 {w : World} {N : Nat} {T : TypeId} {t : Tg} (h : TBox w N T t) (k : Int) : TBox (w.setCell ⟨N, 1, none⟩ (.int .i64 k)) N T { t with kd := k } := ⟨by simp [World.setCell, h.blk, Array.getElem?_modify]⟩
theorem TBox.set2 {w : World} {N : Nat} {T : TypeId} {t : Tg} (h : TBox w N T t) (s : ByteArray) : TBox (w.setCell ⟨N, 2, none⟩ (.string s)) N T { t with nm := s } := ⟨by simp [World.setCell, h.blk, Array.getElem?_modify]⟩
theorem TBox.set3 {w : World} {N : Nat} {T : TypeId} {t : Tg} (h : TBox w N T t) (s : ByteArray) : TBox (w.setCell ⟨N, 3, none⟩ (.string s)) N T { t with tx := s } := ⟨by simp [World.setCell, h.blk, Array.getElem?_modify]⟩
/-- What stands in memory while a tag is read: the answer's place, the reader, the tag so far. -/
structure GS (w0 : World) (M : Nat) (rest : List UInt8) (bd : Bool) (t : Tg) (w : World) : Prop where
  rd : Rdr w (w0.heap.size + 1) (bs rest) bd
  res : TBox w w0.heap.size 58 tgZ
  tb : TBox w M 58 t
  far : w0.heap.size + 2 ≤ M
  bel : Below w0.heap.size w0 w
theorem GS.below {w0 w w' : World} {M : Nat} {rest : List UInt8} {bd : Bool} {t : Tg} (h : GS w0 M rest bd t w) (hb : Below w.heap.size w w') : GS w0 M rest bd t w' :=
  ⟨h.rd.below hb, h.res.below hb, h.tb.below hb, h.far, below2 h.bel hb⟩
theorem GS.take {w0 w w' : World} {M : Nat} {rest rest' : List UInt8} {bd bd' : Bool} {t : Tg} (h : GS w0 M rest bd t w) (hr : Rdr w' (w0.heap.size + 1) (bs rest') bd') (hg : w.grownBy w' (some (w0.heap.size + 1))) : GS w0 M rest' bd' t w' :=
  ⟨hr, h.res.grown hg (by omega), h.tb.grown hg (by have := h.far; omega), h.far, h.bel.grown hg (h.bel.size) (fun k hk => by simp at hk; omega)⟩
theorem GS.put {w0 w w' : World} {M : Nat} {rest : List UInt8} {bd : Bool} {t t' : Tg} (h : GS w0 M rest bd t w) (hg : w.grownBy w' (some M)) (ht : TBox w' M 58 t') : GS w0 M rest bd t' w' :=
  ⟨h.rd.grown hg (by have := h.far; omega), h.res.grown hg (by have := h.far; omega), ht, h.far, h.bel.grown hg (h.bel.size) (fun k hk => by have := h.far; simp at hk; omega)⟩
theorem GS.set1 {w0 w : World} {M : Nat} {rest : List UInt8} {bd : Bool} {t : Tg} (h : GS w0 M rest bd t w) (k : Int) : GS w0 M rest bd { t with kd := k } (w.setCell ⟨M, 1, none⟩ (.int .i64 k)) := h.put (grown_set _ _ _ _) (h.tb.set1 k)
theorem GS.set2 {w0 w : World} {M : Nat} {rest : List UInt8} {bd : Bool} {t : Tg} (h : GS w0 M rest bd t w) (s : ByteArray) : GS w0 M rest bd { t with nm := s } (w.setCell ⟨M, 2, none⟩ (.string s)) := h.put (grown_set _ _ _ _) (h.tb.set2 s)
theorem GS.set3 {w0 w : World} {M : Nat} {rest : List UInt8} {bd : Bool} {t : Tg} (h : GS w0 M rest bd t w) (s : ByteArray) : GS w0 M rest bd { t with tx := s } (w.setCell ⟨M, 3, none⟩ (.string s)) := h.put (grown_set _ _ _ _) (h.tb.set3 s)
theorem GS.start {w0 W0 w1 : World} {rest : List UInt8} {bd : Bool} (hb : Below w0.heap.size w0 W0) (hz : TBox W0 w0.heap.size 58 tgZ) (hs : w0.heap.size + 2 ≤ W0.heap.size) (hr : Rdr w1 (w0.heap.size + 1) (bs rest) bd) (hg : W0.grownBy w1 (some (w0.heap.size + 1))) (s : ByteArray) :
    GS w0 w1.heap.size rest bd ⟨s, 0, ⟨#[]⟩, ⟨#[]⟩⟩ (w1.alloc (.cells #[.string s, .int .i64 0, .string ⟨#[]⟩, .string ⟨#[]⟩] 58)) := by
  have h1 : Below w0.heap.size w0 w1 := hb.grown hg hb.size (fun k hk => by simp at hk; omega)
  have hz1 : TBox w1 w0.heap.size 58 tgZ := hz.grown hg (by omega)
  have hn := new_below w1 (.cells #[.string s, .int .i64 0, .string ⟨#[]⟩, .string ⟨#[]⟩] 58)
  exact ⟨hr.below hn, hz1.below hn, ⟨Cb.alloc_at rfl⟩, Nat.le_trans hs hg.size, below2 h1 hn⟩
theorem kn_tuple (L : List UInt8) (w : World) : Calls Tryz.prog 57 #[.string (bs L)] w fun e w' => e = .returned (.int .i64 (kn L)) ∧ w = w' := (kindOf_any L w).mono fun _ _ h => ⟨h.1, h.2.symm⟩
theorem put4 {w w1 : World} (h : Below w.heap.size w w1) (a b c d : Value) : Below w.heap.size w ((((w1.setCell ⟨w.heap.size, 0, none⟩ a).setCell ⟨w.heap.size, 1, none⟩ b).setCell ⟨w.heap.size, 2, none⟩ c).setCell ⟨w.heap.size, 3, none⟩ d) :=
  (((h.setCell (p := ⟨w.heap.size, 0, none⟩) (Nat.le_refl _) _).setCell (p := ⟨w.heap.size, 1, none⟩) (Nat.le_refl _) _).setCell (p := ⟨w.heap.size, 2, none⟩) (Nat.le_refl _) _).setCell (p := ⟨w.heap.size, 3, none⟩) (Nat.le_refl _) _
theorem GS.flag {w0 w : World} {M : Nat} {rest : List UInt8} {bd c : Bool} {t : Tg} (h : GS w0 M rest bd t w) (e : bd = c) : ∃ y, y = c ∧ GS w0 M rest y t w := ⟨bd, e, h⟩
theorem flag_eq (L : List UInt8) : (((false || !(tkO objectW L && idO (tkT objectW L))) || !(tkO kindW (tkR L) && knO (tkT kindW (tkR L)))) || !tkO nameW (tkR (tkR L)) || !txO (tkR (tkR (tkR L)))) = !gTo L := by
  unfold gTo
  cases tkO objectW L <;> cases idO (tkT objectW L) <;> cases tkO kindW (tkR L) <;> cases knO (tkT kindW (tkR L)) <;> cases tkO nameW (tkR (tkR L)) <;> cases txO (tkR (tkR (tkR L))) <;> rfl
set_option maxHeartbeats 1600000 in
set_option maxRecDepth 100000 in
theorem takeKind_any (N : Nat) (wd L : List UInt8) (bd : Bool) (w : World) (hR : Rdr w N (bs L) bd) (hL : L.length ≤ 1000000) (hw : wd.length ≤ 1000) (hm : MaxAt w) :
    Calls Tryz.prog 53 #[.pointer (some ⟨N, 0, none⟩), .string (bs wd)] w fun e w' => e = .returned (.int .i64 (kn (tkT wd L))) ∧ Rdr w' N (bs (tkR L)) (bd || !(tkO wd L && knO (tkT wd L))) ∧ w.grownBy w' (some N) := by
  have HT := hideIt (take_any N wd L bd w hR hL hw hm)
  have HK := hideIt (fun w => kn_tuple (tkT wd L) w)
  have hd : knO (tkT wd L) = !decide (kn (tkT wd L) = 0) := rfl
  rw [hd]
  obtain ⟨T, hT⟩ : ∃ T, bs (tkT wd L) = T := ⟨_, rfl⟩
  obtain ⟨k, hk⟩ : ∃ k, kn (tkT wd L) = k := ⟨_, rfl⟩
  obtain ⟨o, ho⟩ : ∃ o, tkO wd L = o := ⟨_, rfl⟩
  obtain ⟨R, hRr⟩ : ∃ R, bs (tkR L) = R := ⟨_, rfl⟩
  rw [hT, ho, hRr] at HT
  rw [hT, hk] at HK
  rw [hk, ho, hRr]
  obtain ⟨i, hi⟩ : ∃ i, decide (k = 0) = i := ⟨_, rfl⟩
  rw [hi]
  have h1 : (k == 0) = i := by rw [← hi]; by_cases h : k = 0 <;> simp [h]
  have HX : (bd || !(o && !i)) = ((bd || !o) || i) := by cases bd <;> cases o <;> cases i <;> rfl
  obtain ⟨x, hx⟩ : ∃ x, (bd || !o) = x := ⟨_, rfl⟩
  rw [hx] at HX HT
  rw [HX]
  clear hT hk ho hRr hR hx HX hm hd hi
  cases x with
  | true =>
    have HX2 : Hid (∀ j, (true || j) = true) := hideIt (fun _ => rfl)
    rw [HX2.out]
    go_enter Tryz.func53, Tryz.ntmps53
    go_wp2_with (first | (go_at_call 46; refine HT.out.mono ?_; rintro e w1 ⟨rfl, hr1, hg1⟩; have HR1 := hideIt hr1; have c1 := hr1.c1; have f1 := hr1.f1) | (go_at_call 57; refine (HK.out _).mono ?_; rintro e w2 ⟨rfl, rfl⟩))
    all_goals go_ret
    all_goals exact ⟨rfl, HR1.out.set1 _, hg1.trans (grown_set _ _ _ _)⟩
  | false =>
    have HX2 : Hid (∀ j, (false || j) = j) := hideIt (fun _ => rfl)
    rw [HX2.out]
    cases i with
    | true =>
      go_enter Tryz.func53, Tryz.ntmps53
      go_wp2_with (first | (go_at_call 46; refine HT.out.mono ?_; rintro e w1 ⟨rfl, hr1, hg1⟩; have HR1 := hideIt hr1; have c1 := hr1.c1; have f1 := hr1.f1) | (go_at_call 57; refine (HK.out _).mono ?_; rintro e w2 ⟨rfl, rfl⟩))
      all_goals go_ret
      all_goals exact ⟨rfl, Rdr.cast (HR1.out.set1 _) (by simp_all), hg1.trans (grown_set _ _ _ _)⟩
    | false =>
      go_enter Tryz.func53, Tryz.ntmps53
      go_wp2_with (first | (go_at_call 46; refine HT.out.mono ?_; rintro e w1 ⟨rfl, hr1, hg1⟩; have HR1 := hideIt hr1; have c1 := hr1.c1; have f1 := hr1.f1) | (go_at_call 57; refine (HK.out _).mono ?_; rintro e w2 ⟨rfl, rfl⟩))
      all_goals go_ret
      all_goals exact ⟨rfl, Rdr.cast (HR1.out.set1 _) (by simp_all), hg1.trans (grown_set _ _ _ _)⟩
set_option maxHeartbeats 1600000 in
set_option maxRecDepth 100000 in
theorem getTag_any (L : List UInt8) (w : World) (hL : L.length ≤ 1000000) (hm : MaxAt w) :
    Calls Tryz.prog 21 #[.string (bs L)] w fun e w' => e = .returned (.tuple #[tgV (gT L).1, .int .i64 (gT L).2]) ∧ Below w.heap.size w w' := by
  have HM := hideIt hm
  obtain ⟨W0, hW0⟩ : ∃ W0, (w.alloc (.cells #[.string ⟨#[]⟩, .int .i64 0, .string ⟨#[]⟩, .string ⟨#[]⟩] 58)).alloc (.cells #[.string (bs L), .bool false] 79) = W0 := ⟨_, rfl⟩
  obtain ⟨N, hN⟩ : ∃ N, w.heap.size = N := ⟨_, rfl⟩
  have hb0 : Below N w W0 := by rw [← hW0, ← hN]; exact ((Below.refl _ _).alloc (Nat.le_refl _) _).alloc (by simp) _
  have hr0 : Rdr W0 (N + 1) (bs L) false := ⟨by rw [← hW0]; exact Cb.alloc_at (by simp [hN])⟩
  have hz0 : TBox W0 N 58 tgZ := ⟨by rw [← hW0, ← hN, Below.heap_alloc _ _ _ (by simp)]; exact Cb.alloc_at rfl⟩
  have hs0 : N + 2 ≤ W0.heap.size := by rw [← hW0, ← hN]; simp
  have HI := hideIt (takeID_any (N + 1) objectW L false W0 hr0 hL (by decide) (hm.below (hN ▸ hb0)))
  have hL1 : (tkR L).length ≤ 1000000 := Nat.le_trans (tkR_len L) hL
  have hL2 : (tkR (tkR L)).length ≤ 1000000 := Nat.le_trans (tkR_len _) hL1
  have hL3 : (tkR (tkR (tkR L))).length ≤ 1000000 := Nat.le_trans (tkR_len _) hL2
  subst hN
  have HST := hideIt (fun (w1 : World) (bd : Bool) (hr : Rdr w1 (w.heap.size + 1) (bs (tkR L)) bd) hg => GS.start hb0 hz0 hs0 hr hg (unhB (tkT objectW L)))
  rw [← hW0] at HI HST
  have HK := hideIt (fun (w1 : World) (M : Nat) (bd : Bool) (t : Tg) (g : GS w M (tkR L) bd t w1) => takeKind_any (w.heap.size + 1) kindW (tkR L) bd w1 g.rd hL1 (by decide) (hm.below g.bel))
  have HA := hideIt (fun (w1 : World) (M : Nat) (bd : Bool) (t : Tg) (g : GS w M (tkR (tkR L)) bd t w1) => take_any (w.heap.size + 1) nameW (tkR (tkR L)) bd w1 g.rd hL2 (by decide) (hm.below g.bel))
  have HX := hideIt (fun (w1 : World) (M : Nat) (bd : Bool) (t : Tg) (g : GS w M (tkR (tkR (tkR L))) bd t w1) => takeText_any (w.heap.size + 1) (tkR (tkR (tkR L))) bd w1 g.rd)
  have HC1 := hideIt (fun w => clone_c (tkT nameW (tkR (tkR L))) w (Nat.le_trans (tkT_len _ _) hL2))
  have HC2 := hideIt (fun w => clone_c (txT (tkR (tkR (tkR L)))) w (Nat.le_trans (txT_len _) hL3))
  have HCT := hideIt (fun w => checkTag_any (gTt L) w (by show (bs (tkT nameW (tkR (tkR L)))).size ≤ _; rw [bs_size]; exact Nat.le_trans (tkT_len _ _) hL2) (by show (bs (txT (tkR (tkR (tkR L))))).size ≤ _; rw [bs_size]; exact Nat.le_trans (txT_len _) hL3))
  have HGT : Hid (gT L = if gTo L = true then (if tagE (gTt L) = 0 then (gTt L, 0) else (tgZ, tagE (gTt L))) else (tgZ, 6)) := rfl
  obtain ⟨z, hz⟩ : ∃ z, tagE (gTt L) = z := ⟨_, rfl⟩
  rw [hz] at HCT HGT
  unfold tgV at HCT
  clear hW0 hb0 hr0 hz0 hm hs0 hz
  go_enter Tryz.func21, Tryz.ntmps21
  go_wp2_with (first
    | (go_at_call 44; refine HI.out.mono ?_; rintro e w1 ⟨rfl, hr1, hg1⟩; have G1 := hideIt (HST.out _ _ hr1 hg1); clear hr1 hg1)
    | (go_at_call 53; refine (HK.out _ _ _ _ G1.out).mono ?_; rintro e w2 ⟨rfl, hr2, hg2⟩; have G2 := hideIt (G1.out.take hr2 hg2); have c21 := G2.out.tb.c1; have f21 := G2.out.tb.f1; clear hr2 hg2)
    | (go_at_call 46; refine (HA.out _ _ _ _ (G2.out.set1 _)).mono ?_; rintro e w4 ⟨rfl, hr4, hg4⟩; have G4 := hideIt ((G2.out.set1 _).take hr4 hg4); clear hr4 hg4)
    | (go_at_call 25; refine (HC2.out _).mono ?_; rintro e w7 ⟨rfl, hb7⟩; obtain ⟨y, hy, g7⟩ := (G6.out.below hb7).flag (flag_eq L); have G7 := hideIt g7; have HY := hideIt hy; have c70 := G7.out.tb.c0; have c71 := G7.out.tb.c1; have c72 := G7.out.tb.c2; have c73 := G7.out.tb.c3; have f73 := G7.out.tb.f3; have cr := G7.out.rd.c1; have e0 := G7.out.res.c0; have e1 := G7.out.res.c1; have e2 := G7.out.res.c2; have e3 := G7.out.res.c3; have g0 := G7.out.res.f0; have g1 := G7.out.res.f1; have g2 := G7.out.res.f2; have g3 := G7.out.res.f3; have hn1 : ¬ w1.heap.size = w.heap.size := (by have := G7.out.far; omega); have hn2 : ¬ w.heap.size = w1.heap.size := (by have := G7.out.far; omega); clear g7 hy)
    | (go_at_call 25; refine (HC1.out _).mono ?_; rintro e w5 ⟨rfl, hb5⟩; have G5 := hideIt (G4.out.below hb5); have c52 := G5.out.tb.c2; have f52 := G5.out.tb.f2)
    | (go_at_call 48; refine (HX.out _ _ _ _ (G5.out.set2 _)).mono ?_; rintro e w6 ⟨rfl, hr6, hg6⟩; have G6 := hideIt ((G5.out.set2 _).take (rest' := []) hr6 hg6); clear hr6 hg6)
    | (go_at_call 54; refine (HCT.out _).mono ?_; rintro e w9 ⟨rfl, hb9⟩; have G9 := hideIt ((G7.out.set3 _).below hb9); have d0 := G9.out.tb.c0; have d1 := G9.out.tb.c1; have d2 := G9.out.tb.c2; have d3 := G9.out.tb.c3; have e0 := G9.out.res.c0; have e1 := G9.out.res.c1; have e2 := G9.out.res.c2; have e3 := G9.out.res.c3; have g0 := G9.out.res.f0; have g1 := G9.out.res.f1; have g2 := G9.out.res.f2; have g3 := G9.out.res.f3))
  · have hg : gT L = (tgZ, 6) := by
      rw [HGT.out, if_neg]
      have := HY.out
      simp_all
    refine bodyPost_ret (v := .tuple #[tgV tgZ, .int .i64 6]) ?_ rfl ⟨by rw [hg], ?_⟩
    · rw [results_c2 rfl]
      go_simp
      rfl
    · exact put4 (G7.out.set3 _).bel _ _ _ _
  · have hz0 : ¬ z = 0 := by simp_all
    have hg : gT L = (tgZ, z) := by
      rw [HGT.out, if_pos, if_neg hz0]
      have := HY.out
      simp_all
    refine bodyPost_ret (v := .tuple #[tgV tgZ, .int .i64 z]) ?_ rfl ⟨by rw [hg], ?_⟩
    · rw [results_c2 rfl]
      go_simp
      rfl
    · exact put4 G9.out.bel _ _ _ _
  · have hz0 : z = 0 := by simp_all
    have hg : gT L = (gTt L, 0) := by
      rw [HGT.out, if_pos, if_pos hz0]
      have := HY.out
      simp_all
    refine bodyPost_ret (v := .tuple #[tgV (gTt L), .int .i64 0]) ?_ rfl ⟨by rw [hg], ?_⟩
    · rw [results_c2 rfl]
      go_simp
      rfl
    · exact put4 G9.out.bel _ _ _ _
end Ob
end Go.Proofs.YtmjffngpaoaflaaGreatDoor
