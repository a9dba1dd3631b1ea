/- The law's cut: spots that are not too many, in two rows: walked. -/
import Derived.Test.YtllpfpbpdgpnkaaDoorIxYh
namespace Go.Proofs.YtllpfpbpdgpnkaaDoor.Ix
open Cb Go.RowKit Go.Shelf
theorem other_type {w : World} {B n : Nat} {t t' : TypeId} {v : Value} {xs : List Value} {g : Nat} {cs : Array Value} {fr : Nat × Nat} (hv : w.ownsRow B t 2 v n xs) (hg : w.heap[g]? = some (.cells cs t' fr)) (ht : t' ≠ t) : some g ≠ v.ownBlock := by
  intro e
  rcases hv.2 with ⟨rfl, _⟩ | ⟨g', cap, cur, rfl, _, hh, _⟩
  · simp [Value.ownBlock] at e
  · simp [Value.ownBlock] at e
    subst e
    rw [hg] at hh
    simp only [Option.some.injEq, Obj.cells.injEq] at hh
    exact ht hh.2.1
theorem Pd.grownT {t t' : TypeId} {x : Sp} {X Y : World} {g B n : Nat} {v : Value} {xs : List Value} (h : Pd t x X g) (hv : X.ownsRow B t' 2 v n xs) (hg : X.grownBy Y v.ownBlock) (ht : t ≠ t') : Pd t x Y g := h.grown hg (other_type hv h ht)
theorem own_grown {t t' : TypeId} {X Y : World} {B n B' n' : Nat} {v v' : Value} {xs xs' : List Value} (h : X.ownsRow B t 2 v n xs) (hv : X.ownsRow B' t' 2 v' n' xs') (hg : X.grownBy Y v'.ownBlock) (ht : t ≠ t') : Y.ownsRow B t 2 v n xs := by
  refine ⟨h.1, ?_⟩
  rcases h.2 with h0 | ⟨g, cap, cur, e, h1, hh, r⟩
  · exact .inl h0
  · exact .inr ⟨g, cap, cur, e, h1, (hg.block g (block_lt hh) (other_type hv hh ht)).trans hh, r⟩
theorem step_spot {ops : Array Oper} {o : Oper} {a : Act} {X : World} {K : Act → World → Prop} {Q : Exit → Act → World → Prop} {E : Prop}
    (hg : o.guard = none) (s x : Operand) (t : TypeId) (hop : o.op = Op.call { callee := Callee.builtin Builtin.append, args := #[s, x], argTypes := #[t, t] })
    (base : Nat) (e : TypeId) (i : TypeInfo) (h1 : Tryd.prog.underlying t = some (.slice e)) (h2 : Tryd.prog.info? e = some i) (h3 : i.zero = some (.agg #[.string ⟨#[]⟩, .int .i64 0])) (h4 : i.size = 2) (h5 : i.bytes = 24)
    (v : Value) (n : Nat) (xs : List Value) (hs : a.eval s = v) (hown : X.ownsRow base e 2 v n xs) (y : Sp)
    (g : Nat) (hP : Pd e y X g) (hx : a.eval x = .slice (some ⟨g, 0, none⟩) 1 1) (hn : n ≤ 1000) (hbase : base ≤ X.heap.size)
    (hK : ∀ v' Y, Y.ownsRow base e 2 v' (n + 1) (xs ++ [.string y.d, .int .i64 y.pl]) → X.grownBy Y v.ownBlock → K (a.put o.dst v') Y) :
    if Region.wanted o (yielded ops a.tmps) = true then Oper.wp Tryd.prog o a X K Q else E :=
  step_append_own hg s x t hop base e i (.agg #[.string ⟨#[]⟩, .int .i64 0]) 2 24 h1 h2 h3 h4 h5 rfl (by decide) v n xs hs hown ⟨g, 0, none⟩ 1 1 [.string y.d, .int .i64 y.pl] hx rfl (fun j u hj => hP.cell j u hj) (fun u hu => by simp at hu; rcases hu with rfl | rfl <;> rfl) (by unfold maxLen; omega) (by omega) hbase hK
def Fin2 (w : World) (n : Nat) (xs : List Value) (x : Sp) (v1 v2 : Value) (Y : World) : Prop := Y.ownsRow w.heap.size 38 2 v1 (n + 1) (xs ++ [.string x.d, .int .i64 x.pl]) ∧ Y.ownsRow w.heap.size 37 2 v2 (n + 1) (xs ++ [.string x.d, .int .i64 x.pl]) ∧ Bs w Y
def CutTo (w : World) (l : List Sp) (e : Ending) (w' : World) : Prop := ∃ v1 v2, e = .returned (.tuple #[v1, v2]) ∧ w'.ownsRow w.heap.size 38 2 v1 (l.take 30).length (spsV (l.take 30)) ∧ w'.ownsRow w.heap.size 37 2 v2 (l.take 30).length (spsV (l.take 30)) ∧ Below w.heap.size w w'
set_option maxHeartbeats 6400000 in
set_option maxRecDepth 100000 in
theorem cut_any (v : Value) (l : List Sp) (w : World) (h : SRow w v l) : Calls Tryd.prog 7 #[v] w fun e w' => CutTo w l e w' := by
  obtain ⟨i0, hi0, hz0, hz1, hz2⟩ := info_parts infoI
  obtain ⟨k0, hk0, hy0, hy1, hy2⟩ := info_parts infoJ
  have HT : Hid (∀ e w', CutTo w l e w' ↔ ∃ v1 v2, e = .returned (.tuple #[v1, v2]) ∧ w'.ownsRow w.heap.size 38 2 v1 (l.take 30).length (spsV (l.take 30)) ∧ w'.ownsRow w.heap.size 37 2 v2 (l.take 30).length (spsV (l.take 30)) ∧ Below w.heap.size w w') := hideIt (fun _ _ => Iff.rfl)
  obtain ⟨av, cv, rfl, hle, ⟨hcm, hnone⟩, hrow⟩ := h
  have HR := hideIt hrow
  obtain ⟨n, hn⟩ : ∃ n, l.length = n := ⟨_, rfl⟩
  have HN := hideIt hn
  rw [hn] at hle HR ⊢
  have HE1 : Hid ((((w.alloc (.cells #[] 38)).alloc (.cells #[] 37))).ownsRow w.heap.size 38 2 (.slice (some ⟨w.heap.size, 0, none⟩) 0 0) 0 (spsV (l.take 0))) := hideIt ((new_empty _ w 38 (Nat.le_refl _)).alloc _)
  have HE2 : Hid ((((w.alloc (.cells #[] 38)).alloc (.cells #[] 37))).ownsRow w.heap.size 37 2 (.slice (some ⟨w.heap.size + 1, 0, none⟩) 0 0) 0 (spsV (l.take 0))) := hideIt (by
    have := new_empty w.heap.size (w.alloc (.cells #[] 38)) 37 (by simp)
    simpa using this)
  have HEB : Hid (Below w.heap.size w ((w.alloc (.cells #[] 38)).alloc (.cells #[] 37))) := hideIt (((Below.refl _ w).alloc (Nat.le_refl _) _).alloc (by simp) _)
  clear hn hrow hcm hle
  go_enter Tryd.func7, Tryd.ntmps7
  go_wp2
  go_loopw [4, 5, 6] (fun tv tm ti wr => ∃ i : Nat, i ≤ n ∧ i ≤ 30 ∧ ti = .int .i64 (i : Int) ∧ wr.ownsRow w.heap.size 38 2 tv i (spsV (l.take i)) ∧ wr.ownsRow w.heap.size 37 2 tm i (spsV (l.take i)) ∧ Below w.heap.size w wr) (fun _ _ ti _ => 30 - (intOf ti).toNat)
  case atStart => exact ⟨0, by omega, by omega, rfl, HE1.out, HE2.out, HEB.out⟩
  case round =>
    obtain ⟨i, hi, hi20, rfl, hr1, hr2, hb⟩ := hrel
    have HB := hideIt hb
    have hws : w.heap.size ≤ wr.heap.size := hb.size
    have i20 : (i : Int) ≤ 30 := by omega
    by_cases hlt : i < n ∧ i < 30
    · obtain ⟨hl1, hl2⟩ := hlt
      have q1 : (i : Int) < (n : Int) := by omega
      have q2 : decide ((i : Int) < (n : Int)) = true := decide_eq_true q1
      have q3 : (i : Int) < 30 := by omega
      have q4 : decide ((i : Int) < 30) = true := decide_eq_true q3
      obtain ⟨b, o, rfl, hcells⟩ := HR.out (by omega)
      obtain ⟨x, hxi⟩ : ∃ x, l[i]? = some x := ⟨l[i]'(by rw [HN.out]; exact hl1), by simp⟩
      obtain ⟨c0, c1⟩ := (hcells.below HB.out).2 i x hxi
      have HLS : Hid (∀ X, Bs w X → X.cell? ⟨b, o + i * 2, none⟩ = some (.string x.d) ∧ X.cell? ⟨b, o + i * 2 + 1, none⟩ = some (.int .i64 x.pl) ∧ Bs w X) := hideIt (fun X hX => by
        obtain ⟨z0, z1⟩ := (hcells.below hX).2 i x hxi
        exact ⟨z0, z1, hX⟩)
      have HPQ : Hid (spsV (l.take (i + 1)) = spsV (l.take i) ++ [.string x.d, .int .i64 x.pl]) := hideIt (by
        obtain ⟨hi', rfl⟩ := List.getElem?_eq_some_iff.1 hxi
        rw [List.take_succ_eq_append_getElem hi', spsV_snoc])
      have HX0 : Hid (Bs w wr.drew) := hideIt hb.drew
      have HO1 : Hid (wr.drew.ownsRow w.heap.size 38 2 u4 i (spsV (l.take i))) := hideIt hr1.drew
      have HO2 : Hid (wr.drew.ownsRow w.heap.size 37 2 u5 i (spsV (l.take i))) := hideIt hr2.drew
      generalize spsV (l.take i) = xs at HO1 HO2 HPQ
      clear hr1 hr2 hb hcells hxi
      have PA1 : Hid (Pd 38 x (wr.drew.alloc (.cells #[.string x.d, .int .i64 x.pl] 38)) wr.heap.size) := hideIt (Pd.new 38 x wr.drew)
      have PB1 : Hid (Pd 37 x (wr.drew.alloc (.cells #[.string x.d, .int .i64 x.pl] 37)) wr.heap.size) := hideIt (Pd.new 37 x wr.drew)
      have PA2 : Hid (Pd 38 x ((wr.drew.alloc (.cells #[.string x.d, .int .i64 x.pl] 38)).alloc (.cells #[.string x.d, .int .i64 x.pl] 37)) wr.heap.size) := hideIt (PA1.out.alloc _)
      have PB2 : Hid (Pd 37 x ((wr.drew.alloc (.cells #[.string x.d, .int .i64 x.pl] 37)).alloc (.cells #[.string x.d, .int .i64 x.pl] 38)) wr.heap.size) := hideIt (PB1.out.alloc _)
      have PA3 : Hid (Pd 38 x ((wr.drew.alloc (.cells #[.string x.d, .int .i64 x.pl] 37)).alloc (.cells #[.string x.d, .int .i64 x.pl] 38)) (wr.heap.size + 1)) := hideIt (by simpa using Pd.new 38 x (wr.drew.alloc (.cells #[.string x.d, .int .i64 x.pl] 37)))
      have PB3 : Hid (Pd 37 x ((wr.drew.alloc (.cells #[.string x.d, .int .i64 x.pl] 38)).alloc (.cells #[.string x.d, .int .i64 x.pl] 37)) (wr.heap.size + 1)) := hideIt (by simpa using Pd.new 37 x (wr.drew.alloc (.cells #[.string x.d, .int .i64 x.pl] 38)))
      have ne12 : (38 : TypeId) ≠ 37 := by decide
      have ne21 : (37 : TypeId) ≠ 38 := by decide
      have hi1000 : i ≤ 1000 := by omega
      go_wp2
      go_region_held3 (fun X => X.cell? ⟨b, o + i * 2, none⟩ = some (.string x.d) ∧ X.cell? ⟨b, o + i * 2 + 1, none⟩ = some (.int .i64 x.pl) ∧ Bs w X) (first | exact HLS.out _ HX0.out | assumption | exact HLS.out _ SAB.out | exact HLS.out _ SA.out | exact HLS.out _ SB.out | exact HLS.out _ (Bs.alloc (‹_ ∧ _ ∧ Bs _ _›).2.2 _) | go_keep)
        (first
          | (refine step_spot (by rfl) (.tmp 26) (.tmp 31) 23 (by rfl) w.heap.size 37 k0 Tryd.underlying23 hk0 hy0 hy1 hy2 u5 i xs (by rfl) O2A.out x _ PBA.out (by rfl) hi1000 (Below.size SA.out) ?_; intro vB wB hownB hgB; have SAB := hideIt (Bs.grown SA.out O2A.out hgB); have FN : Hid (Fin2 w i xs x vA vB wB) := hideIt ⟨own_grown hownA O2A.out hgB ne12, hownB, SAB.out⟩)
          | (refine step_spot (by rfl) (.tmp 26) (.tmp 31) 23 (by rfl) w.heap.size 37 k0 Tryd.underlying23 hk0 hy0 hy1 hy2 u5 i xs (by rfl) (O2A.out.alloc _) x _ (Pd.new 37 x wA) (by rfl) hi1000 (Below.size (Bs.alloc SA.out _)) ?_; intro vB wB hownB hgB; have SAB := hideIt (Bs.grown (Bs.alloc SA.out _) (O2A.out.alloc _) hgB); have FN : Hid (Fin2 w i xs x vA vB wB) := hideIt ⟨own_grown (hownA.alloc _) (O2A.out.alloc _) hgB ne12, hownB, SAB.out⟩)
          | (refine step_spot (by rfl) (.tmp 19) (.tmp 24) 22 (by rfl) w.heap.size 38 i0 Tryd.underlying22 hi0 hz0 hz1 hz2 u4 i xs (by rfl) O1B.out x _ PAB.out (by rfl) hi1000 (Below.size SB.out) ?_; intro vA wA hownA hgA; have SAB := hideIt (Bs.grown SB.out O1B.out hgA); have FN : Hid (Fin2 w i xs x vA vB wA) := hideIt ⟨hownA, own_grown hownB O1B.out hgA ne21, SAB.out⟩)
          | (refine step_spot (by rfl) (.tmp 19) (.tmp 24) 22 (by rfl) w.heap.size 38 i0 Tryd.underlying22 hi0 hz0 hz1 hz2 u4 i xs (by rfl) (O1B.out.alloc _) x _ (Pd.new 38 x wB) (by rfl) hi1000 (Below.size (Bs.alloc SB.out _)) ?_; intro vA wA hownA hgA; have SAB := hideIt (Bs.grown (Bs.alloc SB.out _) (O1B.out.alloc _) hgA); have FN : Hid (Fin2 w i xs x vA vB wA) := hideIt ⟨hownA, own_grown (hownB.alloc _) (O1B.out.alloc _) hgA ne21, SAB.out⟩)
          | (refine step_spot (by rfl) (.tmp 19) (.tmp 24) 22 (by rfl) w.heap.size 38 i0 Tryd.underlying22 hi0 hz0 hz1 hz2 u4 i xs (by rfl) (HO1.out.alloc _) x _ PA1.out (by rfl) hi1000 (Below.size (Bs.alloc HX0.out _)) ?_; intro vA wA hownA hgA; have SA := hideIt (Bs.grown (Bs.alloc HX0.out _) (HO1.out.alloc _) hgA); have O2A := hideIt (own_grown (HO2.out.alloc _) (HO1.out.alloc _) hgA ne21))
          | (refine step_spot (by rfl) (.tmp 19) (.tmp 24) 22 (by rfl) w.heap.size 38 i0 Tryd.underlying22 hi0 hz0 hz1 hz2 u4 i xs (by rfl) ((HO1.out.alloc _).alloc _) x _ PA2.out (by rfl) hi1000 (Below.size (Bs.alloc (Bs.alloc HX0.out _) _)) ?_; intro vA wA hownA hgA; have SA := hideIt (Bs.grown (Bs.alloc (Bs.alloc HX0.out _) _) ((HO1.out.alloc _).alloc _) hgA); have O2A := hideIt (own_grown ((HO2.out.alloc _).alloc _) ((HO1.out.alloc _).alloc _) hgA ne21); have PBA := hideIt (Pd.grownT PB3.out ((HO1.out.alloc _).alloc _) hgA ne21))
          | (refine step_spot (by rfl) (.tmp 19) (.tmp 24) 22 (by rfl) w.heap.size 38 i0 Tryd.underlying22 hi0 hz0 hz1 hz2 u4 i xs (by rfl) ((HO1.out.alloc _).alloc _) x _ PA3.out (by rfl) hi1000 (Below.size (Bs.alloc (Bs.alloc HX0.out _) _)) ?_; intro vA wA hownA hgA; have SA := hideIt (Bs.grown (Bs.alloc (Bs.alloc HX0.out _) _) ((HO1.out.alloc _).alloc _) hgA); have O2A := hideIt (own_grown ((HO2.out.alloc _).alloc _) ((HO1.out.alloc _).alloc _) hgA ne21); have PBA := hideIt (Pd.grownT PB2.out ((HO1.out.alloc _).alloc _) hgA ne21))
          | (refine step_spot (by rfl) (.tmp 26) (.tmp 31) 23 (by rfl) w.heap.size 37 k0 Tryd.underlying23 hk0 hy0 hy1 hy2 u5 i xs (by rfl) (HO2.out.alloc _) x _ PB1.out (by rfl) hi1000 (Below.size (Bs.alloc HX0.out _)) ?_; intro vB wB hownB hgB; have SB := hideIt (Bs.grown (Bs.alloc HX0.out _) (HO2.out.alloc _) hgB); have O1B := hideIt (own_grown (HO1.out.alloc _) (HO2.out.alloc _) hgB ne12))
          | (refine step_spot (by rfl) (.tmp 26) (.tmp 31) 23 (by rfl) w.heap.size 37 k0 Tryd.underlying23 hk0 hy0 hy1 hy2 u5 i xs (by rfl) ((HO2.out.alloc _).alloc _) x _ PB2.out (by rfl) hi1000 (Below.size (Bs.alloc (Bs.alloc HX0.out _) _)) ?_; intro vB wB hownB hgB; have SB := hideIt (Bs.grown (Bs.alloc (Bs.alloc HX0.out _) _) ((HO2.out.alloc _).alloc _) hgB); have O1B := hideIt (own_grown ((HO1.out.alloc _).alloc _) ((HO2.out.alloc _).alloc _) hgB ne12); have PAB := hideIt (Pd.grownT PA3.out ((HO2.out.alloc _).alloc _) hgB ne12))
          | (refine step_spot (by rfl) (.tmp 26) (.tmp 31) 23 (by rfl) w.heap.size 37 k0 Tryd.underlying23 hk0 hy0 hy1 hy2 u5 i xs (by rfl) ((HO2.out.alloc _).alloc _) x _ PB3.out (by rfl) hi1000 (Below.size (Bs.alloc (Bs.alloc HX0.out _) _)) ?_; intro vB wB hownB hgB; have SB := hideIt (Bs.grown (Bs.alloc (Bs.alloc HX0.out _) _) ((HO2.out.alloc _).alloc _) hgB); have O1B := hideIt (own_grown ((HO1.out.alloc _).alloc _) ((HO2.out.alloc _).alloc _) hgB ne12); have PAB := hideIt (Pd.grownT PA2.out ((HO2.out.alloc _).alloc _) hgB ne12)))
      all_goals go_wp2
      all_goals
        go_roundw
        case rel =>
          exact ⟨i + 1, by omega, by omega, by go_num, by rw [HPQ.out]; exact FN.out.1, by rw [HPQ.out]; exact FN.out.2.1, FN.out.2.2⟩
        case measure => simp [intOf]; omega
    · have HF : Hid (l.take i = l.take 30) := hideIt (by
        have : i = n ∨ i = 30 := by omega
        rcases this with rfl | rfl
        · rw [← HN.out, List.take_length, List.take_of_length_le (by rw [HN.out]; omega)]
        · rfl)
      have HCL : Hid (i = (l.take 30).length) := hideIt (by
        rw [← HF.out, List.length_take, HN.out]
        omega)
      rw [HF.out] at hr1 hr2
      have HO1 := hideIt hr1
      have HO2 := hideIt hr2
      rw [HCL.out] at HO1 HO2
      clear hr1 hr2 hb
      have hc2 : (¬ (i : Int) < (n : Int) ∧ decide ((i : Int) < (n : Int)) = false) ∨ ((i : Int) < (n : Int) ∧ decide ((i : Int) < (n : Int)) = true ∧ ¬ (i : Int) < 30 ∧ decide ((i : Int) < 30) = false) := by
        by_cases g : (i : Int) < (n : Int)
        · exact .inr ⟨g, decide_eq_true g, by omega, decide_eq_false (by omega)⟩
        · exact .inl ⟨g, decide_eq_false g⟩
      clear hlt
      rcases hc2 with ⟨g1, g2⟩ | ⟨g1, g2, g3, g4⟩
      · go_wp2
        go_ret2
        exact (HT.out _ _).2 ⟨u4, u5, rfl, HO1.out, HO2.out, HB.out⟩
      · go_wp2
        go_ret2
        exact (HT.out _ _).2 ⟨u4, u5, rfl, HO1.out, HO2.out, HB.out⟩
end Go.Proofs.YtllpfpbpdgpnkaaDoor.Ix
