/- The law TreeEdits, walked. -/
import Derived.Test.YtfpnepjdcgghgaaTm
import Derived.Test.YtfpnepjdcgghgaaOpn
namespace Go.Proofs.Ytfpnepjdcgghgaa
open Go.RowKit Go.Shelf
theorem ERow.grown {w w' : World} {row : Option Nat} {v : Value} {l : List En} (h : ERow w v l) (hg : w.grownBy w' row) (hne : ∀ b, v.ownBlock = some b → some b ≠ row) : ERow w' v l := by
  obtain ⟨a, c, rfl, h1, h2, h3⟩ := h
  refine ⟨a, c, rfl, h1, h2, fun h0 => ?_⟩
  obtain ⟨b, o, rfl, hc⟩ := h3 h0
  have hb : w'.heap[b]? = w.heap[b]? := hg.block b hc.1 (hne b rfl)
  refine ⟨b, o, rfl, Nat.lt_of_lt_of_le hc.1 hg.size, fun i x hx => ?_⟩
  obtain ⟨c0, c1, c2⟩ := hc.2 i x hx
  exact ⟨by rw [World.cell?_of_block (a := ⟨b, o + i * 3, none⟩) hb]; exact c0, by rw [World.cell?_of_block (a := ⟨b, o + i * 3 + 1, none⟩) hb]; exact c1, by rw [World.cell?_of_block (a := ⟨b, o + i * 3 + 2, none⟩) hb]; exact c2⟩
/-- Three worlds from which the law's own row is begun: the new entry first, then the row; the row, then the entry; the row alone. -/
abbrev XA (w : World) (y : En) : World := ((w.alloc (EO y)).alloc E0).drew
abbrev XB (w : World) (y : En) : World := ((w.alloc E0).alloc (EO y)).drew
abbrev XC (w : World) : World := (w.alloc E0).drew
theorem XA_own (w : World) (y : En) : Own2 w.heap.size (XA w y) (.slice (some ⟨w.heap.size + 1, 0, none⟩) 0 0) [] := by
  have h := own_empty (w.alloc (EO y)) w.heap.size (by simp) (XA w y) (alloc_at rfl)
  simpa using h
theorem XB_own (w : World) (y : En) : Own2 w.heap.size (XB w y) (.slice (some ⟨w.heap.size, 0, none⟩) 0 0) [] :=
  own_empty w w.heap.size (Nat.le_refl _) _ ((Below.heap_alloc (w.alloc E0) _ _ (by simp)).trans (alloc_at rfl))
theorem XC_own (w : World) : Own2 w.heap.size (XC w) (.slice (some ⟨w.heap.size, 0, none⟩) 0 0) [] := own_empty w w.heap.size (Nat.le_refl _) _ (alloc_at rfl)
theorem XA_below (w : World) (y : En) : Below w.heap.size w (XA w y) := (((Below.refl _ w).alloc (Nat.le_refl _) _).alloc (by simp) _).drew
theorem XB_below (w : World) (y : En) : Below w.heap.size w (XB w y) := (((Below.refl _ w).alloc (Nat.le_refl _) _).alloc (by simp) _).drew
theorem XC_below (w : World) : Below w.heap.size w (XC w) := ((Below.refl _ w).alloc (Nat.le_refl _) _).drew
theorem XA_new (w : World) (y : En) (w' : World) (hg : (XA w y).grownBy w' (Value.ownBlock (.slice (some ⟨w.heap.size + 1, 0, none⟩) 0 0))) : ERow w' (.slice (some ⟨w.heap.size, 0, none⟩) 1 1) [y] :=
  ((EO_row w y).below (((Below.refl _ _).alloc (Nat.le_refl _) _).drew : Below (w.alloc (EO y)).heap.size (w.alloc (EO y)) (XA w y))).grown hg (fun b hb => by simp [Value.ownBlock] at hb ⊢; omega)
theorem XB_new (w : World) (y : En) (w' : World) (hg : (XB w y).grownBy w' (Value.ownBlock (.slice (some ⟨w.heap.size, 0, none⟩) 0 0))) : ERow w' (.slice (some ⟨w.heap.size + 1, 0, none⟩) 1 1) [y] := by
  have h : ERow (XB w y) (.slice (some ⟨(w.alloc E0).heap.size, 0, none⟩) 1 1) [y] := (EO_row (w.alloc E0) y).below (Below.refl _ _).drew
  have h2 : ERow (XB w y) (.slice (some ⟨w.heap.size + 1, 0, none⟩) 1 1) [y] := by simpa using h
  exact h2.grown hg (fun b hb => by simp [Value.ownBlock] at hb ⊢; omega)
set_option maxHeartbeats 8000000 in
set_option maxRecDepth 100000 in
theorem edits_law (xv : Value) (xl : List En) (lv : Value) (ll : List En) (w : World) (hx : ERow w xv xl) (hl : ERow w lv ll) (hm : MaxAt w) : Calls Try.prog 5 #[xv, lv] w fun e w' => e = .returned (.bool true) ∧ Below w.heap.size w w' := by
  have HX := hideIt hx
  have HLV := hideIt hl
  have HM := hideIt hm
  have HWI := hideIt (with_any)
  have HWT := hideIt (without_any)
  have HAW := hideIt (awake_any)
  obtain ⟨xn, hxn⟩ : ∃ xn, xl.length = xn := ⟨_, rfl⟩
  obtain ⟨ln, hln⟩ : ∃ ln, ll.length = ln := ⟨_, rfl⟩
  obtain ⟨xa, xc, rfl⟩ := hx.sliceN hxn
  obtain ⟨la, lc, rfl⟩ := hl.sliceN hln
  have HXN := hideIt hxn
  have HLN := hideIt hln
  clear hx hl hm hxn hln
  go_enter Try.func5, Try.ntmps5
  go_wp2
  go_loopw [5, 6, 7] (fun tv mv t wr => ∃ (i : Nat) (L : List En), i ≤ xn ∧ i ≤ 20 ∧ t = .int .i64 i ∧ wr.ownsRow w.heap.size 36 3 tv L.length (esV L) ∧ Own2 w.heap.size wr mv L ∧ Up L ∧ L.length ≤ i ∧ Below w.heap.size w wr) (fun _ _ t _ => 20 - (intOf t).toNat)
  case atStart =>
    refine ⟨0, [], by omega, by omega, rfl, ?_, ?_, List.Pairwise.nil, Nat.le_refl _, ((Below.refl _ w).alloc (Nat.le_refl _) _).alloc (by simp) _⟩
    · exact (own_empty w w.heap.size (Nat.le_refl _) _ ((Below.heap_alloc (w.alloc E0) _ _ (by simp)).trans (alloc_at rfl))).own
    · have h := own_empty (w.alloc E0) w.heap.size (by simp) ((w.alloc E0).alloc E0) (alloc_at rfl)
      simpa using h
  case round =>
    obtain ⟨i, L, hi, hi20, rfl, hot, hom, hup, hLi, hb⟩ := hrel
    obtain ⟨wo, hwo⟩ : ∃ wo, wo = wr := ⟨_, rfl⟩
    subst hwo
    have HOT := hideIt hot
    have HOM := hideIt hom
    have HUP := hideIt hup
    have HB := hideIt hb
    clear hot hup hb
    have i20 : (i : Int) ≤ 20 := by omega
    by_cases hlt : i < xn ∧ i < 20
    · obtain ⟨hlt1, hlt2⟩ := hlt
      have i1 : (i : Int) < (xn : Int) := by omega
      have i2 : decide ((i : Int) < (xn : Int)) = true := decide_eq_true i1
      have i3 : (i : Int) < 20 := by omega
      have i4 : decide ((i : Int) < 20) = true := decide_eq_true i3
      obtain ⟨y, hyi⟩ : ∃ y, xl[i]? = some y := ⟨xl[i]'(by rw [HXN.out]; exact hlt1), by simp⟩
      obtain ⟨bx, ox, rfl, x0, x1, x2⟩ := (HX.out.below HB.out).cellsAt hyi
      obtain ⟨W, hW⟩ : ∃ W, wo.alloc (.cells #[.string y.nm, .int .i64 y.md, .string y.ids] 36) = W := ⟨_, rfl⟩
      have hbW : Below wo.heap.size wo W := by rw [← hW]; exact (Below.refl _ _).alloc (Nat.le_refl _) _
      have hbox : W.heap[wo.heap.size]? = some (.cells #[.string y.nm, .int .i64 y.md, .string y.ids] 36 (0, 0)) := by rw [← hW]; exact alloc_at rfl
      obtain ⟨k0, k1, k2⟩ := three_cells hbox
      have HWX := hideIt (HWI.out _ L y w.heap.size W (own_below HOT.out hbW) (by omega) HUP.out)
      have HBX := hideIt hbox
      have hlW := block_lt hbox
      have HBW := hideIt hbW
      obtain ⟨g, cap, rfl, hnc, hcm, _, hgl⟩ := hom.form
      obtain ⟨n, hnn⟩ : ∃ n, L.length = n := ⟨_, rfl⟩
      have HN := hideIt hnn
      rw [hnn] at hnc hLi ⊢
      have nI : (n : Int) ≤ 20 := by omega
      have HCE : Hid (∀ w', Below W.heap.size W w' → 0 < n → ECells w' g 0 L) := hideIt (fun w' h h0 => by
        have h1 := (HOM.out.below (below2 HBW.out h)).own
        rcases row_cells h1 with h2 | h2
        · exact h2
        · rw [h2] at HN; have := HN.out; simp at this; omega)
      clear hom hyi hbox hbW hnn
      go_wp2_with (first | (go_at_call 16; refine HWX.out.mono ?_; rintro e w1 ⟨v1, rfl, ho1, hb1⟩; have HO1 := hideIt ho1; have HB1 := hideIt hb1; clear ho1 hb1))
      go_loopw [9] (fun t wr => ∃ a : Nat, a ≤ n ∧ t = .int .i64 a ∧ (∀ j x, j < a → L[j]? = some x → less x.nm y.nm = true) ∧ Below w1.heap.size w1 wr) (fun t _ => n - (intOf t).toNat)
      case atStart => exact ⟨0, by omega, rfl, fun j x hj => by omega, Below.refl _ _⟩
      case round =>
        obtain ⟨a, ha, rfl, hall, hbq⟩ := hrel
        have HALL := hideIt hall
        have HBQ := hideIt hbq
        clear hall hbq
        have HBA := hideIt (below2 HB1.out HBQ.out)
        obtain ⟨y0, y1, y2⟩ := three_cells ((HBA.out.block wo.heap.size hlW).trans HBX.out)
        by_cases han : a < n
        · have a1 : (a : Int) < (n : Int) := by omega
          have a2 : decide ((a : Int) < (n : Int)) = true := decide_eq_true a1
          obtain ⟨x, hxa⟩ : ∃ x, L[a]? = some x := ⟨L[a]'(by rw [HN.out]; exact han), by simp⟩
          obtain ⟨m0, m1, m2⟩ := (HCE.out wr HBA.out (by omega)).2 a x hxa
          rw [Nat.zero_add] at m0 m1 m2
          have HXA := hideIt hxa
          obtain ⟨ls, hls⟩ : ∃ ls, Op.bytesLess x.nm.toList y.nm.toList = ls := ⟨_, rfl⟩
          have HLS : Hid (less x.nm y.nm = ls) := hideIt hls
          clear hxa
          cases ls with
          | true =>
            go_wp2
            go_quiet (fail)
            go_wp2
            go_roundw
            case rel =>
              refine ⟨a + 1, by omega, by go_num, fun j z hj hz => ?_, below2 HBQ.out (below_drewN _ _)⟩
              rcases (by omega : j < a ∨ j = a) with h | h
              · exact HALL.out j z h hz
              · subst h
                rw [HXA.out] at hz
                cases hz
                exact HLS.out
            case measure => simp [intOf]; omega
          | false =>
            have HPOS : Hid (pos L y.nm = a) := hideIt (pos_is HUP.out y.nm a (by rw [HN.out]; omega) HALL.out (fun z hz => by rw [HXA.out] at hz; cases hz; exact HLS.out))
            obtain ⟨eq, heq⟩ : ∃ eq, (x.nm.toList == y.nm.toList) = eq := ⟨_, rfl⟩
            have HEQ : Hid (found L y.nm = eq) := hideIt (by
              rw [found, HPOS.out, HXA.out, ← heq]
              show decide (x.nm = y.nm) = _
              rw [ByteArray.toList_eq, ByteArray.toList_eq]
              by_cases h : x.nm = y.nm
              · rw [h]; simp
              · have h2 : ¬ x.nm.data.toList = y.nm.data.toList := fun e => h (bytes_ext e)
                rw [decide_eq_false h]
                symm
                simpa using h2)
            have HPF : Hid (pos L y.nm = a ∧ found L y.nm = eq) := hideIt ⟨HPOS.out, HEQ.out⟩
            clear HPOS HEQ
            go_wp2
            go_quiet (fail)
            go_wp2
            obtain ⟨wp, hwp, HBP0⟩ : ∃ wp, wr.drewN nq = wp ∧ Below wr.heap.size wr wp := ⟨_, rfl, below_drewN _ _⟩
            rw [hwp]
            have HBP := hideIt (below2 HBA.out HBP0)
            have HBPC := hideIt (below2 HBQ.out HBP0)
            clear hwp
            obtain ⟨y0, y1, y2⟩ := three_cells ((HBP.out.block wo.heap.size hlW).trans HBX.out)
            obtain ⟨m0, m1, m2⟩ := (HCE.out wp HBP.out (by omega)).2 a x HXA.out
            rw [Nat.zero_add] at m0 m1 m2
            cases eq with
            | true =>
              go_quiet (fail)
              go_wp2
              obtain ⟨wq, hwq, HBQ30⟩ : ∃ wq, wp.drewN nq = wq ∧ Below wp.heap.size wp wq := ⟨_, rfl, below_drewN _ _⟩
              rw [hwq]
              have HBQ3 := hideIt (below2 HBP.out HBQ30)
              have HBQ1 := hideIt (below2 HBPC.out HBQ30)
              clear hwq
              obtain ⟨y0, y1, y2⟩ := three_cells ((HBQ3.out.block wo.heap.size hlW).trans HBX.out)
              obtain ⟨q, hq⟩ : ∃ q, a + 1 = q := ⟨_, rfl⟩
              have hqn : q ≤ n := by omega
              have q1 : (q : Int) ≤ (n : Int) := by omega
              have q4 : IntKind.i64.wrap (q : Int) = (q : Int) := by rw [IntKind.wrap_i64]; omega
              have p1 : (a : Int) ≤ (cap : Int) := by omega
              have p2 : (n : Int) ≤ (cap : Int) := by omega
              have p3 : IntKind.i64.wrap (a : Int) = (a : Int) := by rw [IntKind.wrap_i64]; omega
              have q3 : (a : Int) + 1 = (q : Int) := by omega
              have HWE : Hid (([] ++ L.take a ++ [y]) ++ L.drop q = withL L y) := hideIt (by
                rw [withL, HPF.out.1, HPF.out.2, ← hq]
                simp)
              have HMQ := hideIt (HOM.out.below (below2 HBW.out HBQ3.out))
              have HRC : Hid (∀ w', Below wq.heap.size wq w' → ECells w' g 0 L ∨ L = []) := hideIt (fun w' h => row_cells (HMQ.out.below h).own)
              have HF : Hid (∀ w', Below wq.heap.size wq w' → ERow w' (.slice (some ⟨g, 0, none⟩) a cap) (L.take a)) := hideIt (fun w' h => first_row (HRC.out w' h) hcm HN.out (by omega) hnc)
              have HD0 : Hid (∀ w', Below wq.heap.size wq w' → ERow w' (.slice (if cap = q then some ⟨g, 0, none⟩ else some ⟨g, q * 3, none⟩) (n - q) (cap - q)) (L.drop q)) := hideIt (fun w' h => third_row (HRC.out w' h) hcm HN.out hqn hnc)
              have HSB : Hid (∀ w', Below wq.heap.size wq w' → w'.cell? ⟨wo.heap.size, 0, none⟩ = some (.string y.nm) ∧ w'.cell? ⟨wo.heap.size, 1, none⟩ = some (.int .i64 y.md) ∧ w'.cell? ⟨wo.heap.size, 2, none⟩ = some (.string y.ids)) := hideIt (fun w' h => three_cells (((below2 HBQ3.out h).block wo.heap.size hlW).trans HBX.out))
              have HL1 : Hid (([] : List En).length + (L.take a).length ≤ 1000000) := hideIt (by have := HN.out; simp; omega)
              have HL2 : Hid (([] ++ L.take a : List En).length + [y].length ≤ 1000000) := hideIt (by have := HN.out; simp; omega)
              have HL3 : Hid ((([] ++ L.take a) ++ [y] : List En).length + (L.drop q).length ≤ 1000000) := hideIt (by have := HN.out; simp; omega)
              have HNXT : Hid (∀ v w', Own2 wq.heap.size w' v (([] ++ L.take a ++ [y]) ++ L.drop q) → Below wq.heap.size wq w' → w'.ownsRow w.heap.size 36 3 v1 (withL L y).length (esV (withL L y)) ∧ Own2 w.heap.size w' v (withL L y) ∧ Up (withL L y) ∧ (withL L y).length ≤ i + 1 ∧ Below w.heap.size w w') := hideIt (fun v w' h1 h2 => by
                have hww : w.heap.size ≤ wo.heap.size := HB.out.size
                have hwq : wo.heap.size ≤ wq.heap.size := Nat.le_trans HBW.out.size HBQ3.out.size
                rw [HWE.out] at h1
                refine ⟨own_below (own_mono HO1.out (by have := HBW.out.size; omega)) (below2 HBQ1.out h2), ⟨own_mono h1.own (by omega), h1.ne⟩, up_with HUP.out y, by have := with_len L y; have := HN.out; omega, below2 HB.out (below2 HBW.out (below2 HBQ3.out h2))⟩)
              obtain ⟨r, hr⟩ : ∃ r, cap - q = r := ⟨_, rfl⟩
              obtain ⟨r2, hr2⟩ : ∃ r2, n - q = r2 := ⟨_, rfl⟩
              rw [hr, hr2] at HD0
              have hI1 : ((cap : Int) - (q : Int)) = (r : Int) := by omega
              have hI2 : ((n : Int) - (q : Int)) = (r2 : Int) := by omega
              by_cases hcq : cap = q
              · obtain rfl : n = cap := by omega
                subst hcq
                obtain rfl : r = 0 := by omega
                obtain rfl : r2 = 0 := by omega
                have HD : Hid (∀ w', Below wq.heap.size wq w' → ERow w' (.slice (some ⟨g, 0, none⟩) 0 0) (L.drop n)) := hideIt (fun w' h => by have := HD0.out w' h; rw [if_pos rfl] at this; exact this)
                clear HD0 hI1 hI2 hq
                go_region_held3 (fun X => X.cell? ⟨wo.heap.size, 0, none⟩ = some (.string y.nm) ∧ X.cell? ⟨wo.heap.size, 1, none⟩ = some (.int .i64 y.md) ∧ X.cell? ⟨wo.heap.size, 2, none⟩ = some (.string y.ids)) (first | exact ⟨y0, y1, y2⟩ | exact HSB.out _ hb79 | exact HSB.out _ hb74 | exact HSB.out _ hb71 | go_keep) (first
                  | (refine step_erow (by rfl) _ _ (by rfl) wq.heap.size _ [] (by rfl) (XA_own wq y) _ (L.take a) (by rfl) (HF.out _ (XA_below wq y)) HL1.out (XA_below wq y).size ?_; intro v71 w71 ho71 hg71; have hb71 := (XA_below wq y).trans (grown_below (XA_own wq y) hg71 (XA_below wq y).size); have hy71 := XA_new wq y w71 hg71)
                  | (refine step_erow (by rfl) _ _ (by rfl) wq.heap.size _ [] (by rfl) (XB_own wq y) _ (L.take a) (by rfl) (HF.out _ (XB_below wq y)) HL1.out (XB_below wq y).size ?_; intro v71 w71 ho71 hg71; have hb71 := (XB_below wq y).trans (grown_below (XB_own wq y) hg71 (XB_below wq y).size); have hy71 := XB_new wq y w71 hg71)
                  | (refine step_erow (by rfl) _ _ (by rfl) wq.heap.size _ [] (by rfl) (XC_own wq) _ (L.take a) (by rfl) (HF.out _ (XC_below wq)) HL1.out (XC_below wq).size ?_; intro v71 w71 ho71 hg71; have hb71 := (XC_below wq).trans (grown_below (XC_own wq) hg71 (XC_below wq).size))
                  | (refine step_erow (by rfl) _ _ (by rfl) wq.heap.size _ _ (by rfl) ho71 _ [y] (by rfl) hy71 HL2.out hb71.size ?_; intro v74 w74 ho74 hg74; have hb74 := hb71.trans (grown_below ho71 hg74 hb71.size))
                  | (refine step_erow (by rfl) _ _ (by rfl) wq.heap.size _ _ (by rfl) (ho71.below ((Below.refl _ w71).alloc (Nat.le_refl _) (EO y))) _ [y] (by rfl) (EO_row w71 y) HL2.out (hb71.alloc hb71.size (EO y)).size ?_; intro v74 w74 ho74 hg74; have hb74 := (hb71.alloc hb71.size (EO y)).trans (grown_below (ho71.below ((Below.refl _ w71).alloc (Nat.le_refl _) (EO y))) hg74 (hb71.alloc hb71.size (EO y)).size))
                  | (refine step_erow (by rfl) _ _ (by rfl) wq.heap.size _ _ (by rfl) ho74 _ (L.drop n) (by rfl) (HD.out _ hb74) HL3.out hb74.size ?_; intro v79 w79 ho79 hg79; have hb79 := hb74.trans (grown_below ho74 hg79 hb74.size))
                  | fail)
                all_goals have HO79 := hideIt ho79
                all_goals have HB79 := hideIt hb79
                all_goals clear ho79 hb79 ho74 hb74 ho71 hb71 hg71 hg74 hg79
                all_goals obtain ⟨f1, f2, f3, f4, f5⟩ := HNXT.out _ _ HO79.out HB79.out
                all_goals have HF1 := hideIt f1
                all_goals have HF2 := hideIt f2
                all_goals have HF3 := hideIt f3
                all_goals have HF5 := hideIt f5
                all_goals clear f1 f2 f3 f5 HNXT HO79 HB79
                all_goals go_wp2
                all_goals go_roundw
                all_goals first | exact ⟨i + 1, withL L y, by omega, by omega, by go_num, HF1.out, HF2.out, HF3.out, f4, HF5.out⟩ | (simp [intOf]; omega)
              · have HD : Hid (∀ w', Below wq.heap.size wq w' → ERow w' (.slice (some ⟨g, q * 3, none⟩) r2 r) (L.drop q)) := hideIt (fun w' h => by have := HD0.out w' h; rw [if_neg hcq] at this; exact this)
                clear HD0 hq
                go_region_held3 (fun X => X.cell? ⟨wo.heap.size, 0, none⟩ = some (.string y.nm) ∧ X.cell? ⟨wo.heap.size, 1, none⟩ = some (.int .i64 y.md) ∧ X.cell? ⟨wo.heap.size, 2, none⟩ = some (.string y.ids)) (first | exact ⟨y0, y1, y2⟩ | exact HSB.out _ hb79 | exact HSB.out _ hb74 | exact HSB.out _ hb71 | go_keep) (first
                  | (refine step_erow (by rfl) _ _ (by rfl) wq.heap.size _ [] (by rfl) (XA_own wq y) _ (L.take a) (by rfl) (HF.out _ (XA_below wq y)) HL1.out (XA_below wq y).size ?_; intro v71 w71 ho71 hg71; have hb71 := (XA_below wq y).trans (grown_below (XA_own wq y) hg71 (XA_below wq y).size); have hy71 := XA_new wq y w71 hg71)
                  | (refine step_erow (by rfl) _ _ (by rfl) wq.heap.size _ [] (by rfl) (XB_own wq y) _ (L.take a) (by rfl) (HF.out _ (XB_below wq y)) HL1.out (XB_below wq y).size ?_; intro v71 w71 ho71 hg71; have hb71 := (XB_below wq y).trans (grown_below (XB_own wq y) hg71 (XB_below wq y).size); have hy71 := XB_new wq y w71 hg71)
                  | (refine step_erow (by rfl) _ _ (by rfl) wq.heap.size _ [] (by rfl) (XC_own wq) _ (L.take a) (by rfl) (HF.out _ (XC_below wq)) HL1.out (XC_below wq).size ?_; intro v71 w71 ho71 hg71; have hb71 := (XC_below wq).trans (grown_below (XC_own wq) hg71 (XC_below wq).size))
                  | (refine step_erow (by rfl) _ _ (by rfl) wq.heap.size _ _ (by rfl) ho71 _ [y] (by rfl) hy71 HL2.out hb71.size ?_; intro v74 w74 ho74 hg74; have hb74 := hb71.trans (grown_below ho71 hg74 hb71.size))
                  | (refine step_erow (by rfl) _ _ (by rfl) wq.heap.size _ _ (by rfl) (ho71.below ((Below.refl _ w71).alloc (Nat.le_refl _) (EO y))) _ [y] (by rfl) (EO_row w71 y) HL2.out (hb71.alloc hb71.size (EO y)).size ?_; intro v74 w74 ho74 hg74; have hb74 := (hb71.alloc hb71.size (EO y)).trans (grown_below (ho71.below ((Below.refl _ w71).alloc (Nat.le_refl _) (EO y))) hg74 (hb71.alloc hb71.size (EO y)).size))
                  | (refine step_erow (by rfl) _ _ (by rfl) wq.heap.size _ _ (by rfl) ho74 _ (L.drop q) (by rfl) (HD.out _ hb74) HL3.out hb74.size ?_; intro v79 w79 ho79 hg79; have hb79 := hb74.trans (grown_below ho74 hg79 hb74.size))
                  | fail)
                all_goals have HO79 := hideIt ho79
                all_goals have HB79 := hideIt hb79
                all_goals clear ho79 hb79 ho74 hb74 ho71 hb71 hg71 hg74 hg79
                all_goals obtain ⟨f1, f2, f3, f4, f5⟩ := HNXT.out _ _ HO79.out HB79.out
                all_goals have HF1 := hideIt f1
                all_goals have HF2 := hideIt f2
                all_goals have HF3 := hideIt f3
                all_goals have HF5 := hideIt f5
                all_goals clear f1 f2 f3 f5 HNXT HO79 HB79
                all_goals go_wp2
                all_goals go_roundw
                all_goals first | exact ⟨i + 1, withL L y, by omega, by omega, by go_num, HF1.out, HF2.out, HF3.out, f4, HF5.out⟩ | (simp [intOf]; omega)
            | false =>
              go_quiet (fail)
              go_wp2
              obtain ⟨wq, hwq, HBQ30⟩ : ∃ wq, wp.drewN nq = wq ∧ Below wp.heap.size wp wq := ⟨_, rfl, below_drewN _ _⟩
              rw [hwq]
              have HBQ3 := hideIt (below2 HBP.out HBQ30)
              have HBQ1 := hideIt (below2 HBPC.out HBQ30)
              clear hwq
              obtain ⟨y0, y1, y2⟩ := three_cells ((HBQ3.out.block wo.heap.size hlW).trans HBX.out)
              have hqn : a ≤ n := by omega
              have q1 : (a : Int) ≤ (n : Int) := by omega
              have p1 : (a : Int) ≤ (cap : Int) := by omega
              have p2 : (n : Int) ≤ (cap : Int) := by omega
              have p3 : IntKind.i64.wrap (a : Int) = (a : Int) := by rw [IntKind.wrap_i64]; omega
              have HWE : Hid (([] ++ L.take a ++ [y]) ++ L.drop a = withL L y) := hideIt (by
                rw [withL, HPF.out.1, HPF.out.2]
                simp)
              have HMQ := hideIt (HOM.out.below (below2 HBW.out HBQ3.out))
              have HRC : Hid (∀ w', Below wq.heap.size wq w' → ECells w' g 0 L ∨ L = []) := hideIt (fun w' h => row_cells (HMQ.out.below h).own)
              have HF : Hid (∀ w', Below wq.heap.size wq w' → ERow w' (.slice (some ⟨g, 0, none⟩) a cap) (L.take a)) := hideIt (fun w' h => first_row (HRC.out w' h) hcm HN.out (by omega) hnc)
              have HD0 : Hid (∀ w', Below wq.heap.size wq w' → ERow w' (.slice (if cap = a then some ⟨g, 0, none⟩ else some ⟨g, a * 3, none⟩) (n - a) (cap - a)) (L.drop a)) := hideIt (fun w' h => third_row (HRC.out w' h) hcm HN.out hqn hnc)
              have HSB : Hid (∀ w', Below wq.heap.size wq w' → w'.cell? ⟨wo.heap.size, 0, none⟩ = some (.string y.nm) ∧ w'.cell? ⟨wo.heap.size, 1, none⟩ = some (.int .i64 y.md) ∧ w'.cell? ⟨wo.heap.size, 2, none⟩ = some (.string y.ids)) := hideIt (fun w' h => three_cells (((below2 HBQ3.out h).block wo.heap.size hlW).trans HBX.out))
              have HL1 : Hid (([] : List En).length + (L.take a).length ≤ 1000000) := hideIt (by have := HN.out; simp; omega)
              have HL2 : Hid (([] ++ L.take a : List En).length + [y].length ≤ 1000000) := hideIt (by have := HN.out; simp; omega)
              have HL3 : Hid ((([] ++ L.take a) ++ [y] : List En).length + (L.drop a).length ≤ 1000000) := hideIt (by have := HN.out; simp; omega)
              have HNXT : Hid (∀ v w', Own2 wq.heap.size w' v (([] ++ L.take a ++ [y]) ++ L.drop a) → Below wq.heap.size wq w' → w'.ownsRow w.heap.size 36 3 v1 (withL L y).length (esV (withL L y)) ∧ Own2 w.heap.size w' v (withL L y) ∧ Up (withL L y) ∧ (withL L y).length ≤ i + 1 ∧ Below w.heap.size w w') := hideIt (fun v w' h1 h2 => by
                have hww : w.heap.size ≤ wo.heap.size := HB.out.size
                have hwq : wo.heap.size ≤ wq.heap.size := Nat.le_trans HBW.out.size HBQ3.out.size
                rw [HWE.out] at h1
                refine ⟨own_below (own_mono HO1.out (by have := HBW.out.size; omega)) (below2 HBQ1.out h2), ⟨own_mono h1.own (by omega), h1.ne⟩, up_with HUP.out y, by have := with_len L y; have := HN.out; omega, below2 HB.out (below2 HBW.out (below2 HBQ3.out h2))⟩)
              obtain ⟨r, hr⟩ : ∃ r, cap - a = r := ⟨_, rfl⟩
              obtain ⟨r2, hr2⟩ : ∃ r2, n - a = r2 := ⟨_, rfl⟩
              rw [hr, hr2] at HD0
              have hI1 : ((cap : Int) - (a : Int)) = (r : Int) := by omega
              have hI2 : ((n : Int) - (a : Int)) = (r2 : Int) := by omega
              by_cases hcq : cap = a
              · obtain rfl : n = cap := by omega
                subst hcq
                obtain rfl : r = 0 := by omega
                obtain rfl : r2 = 0 := by omega
                have HD : Hid (∀ w', Below wq.heap.size wq w' → ERow w' (.slice (some ⟨g, 0, none⟩) 0 0) (L.drop n)) := hideIt (fun w' h => by have := HD0.out w' h; rw [if_pos rfl] at this; exact this)
                clear HD0 hI1 hI2
                go_region_held3 (fun X => X.cell? ⟨wo.heap.size, 0, none⟩ = some (.string y.nm) ∧ X.cell? ⟨wo.heap.size, 1, none⟩ = some (.int .i64 y.md) ∧ X.cell? ⟨wo.heap.size, 2, none⟩ = some (.string y.ids)) (first | exact ⟨y0, y1, y2⟩ | exact HSB.out _ hb79 | exact HSB.out _ hb74 | exact HSB.out _ hb71 | go_keep) (first
                  | (refine step_erow (by rfl) _ _ (by rfl) wq.heap.size _ [] (by rfl) (XA_own wq y) _ (L.take n) (by rfl) (HF.out _ (XA_below wq y)) HL1.out (XA_below wq y).size ?_; intro v71 w71 ho71 hg71; have hb71 := (XA_below wq y).trans (grown_below (XA_own wq y) hg71 (XA_below wq y).size); have hy71 := XA_new wq y w71 hg71)
                  | (refine step_erow (by rfl) _ _ (by rfl) wq.heap.size _ [] (by rfl) (XB_own wq y) _ (L.take n) (by rfl) (HF.out _ (XB_below wq y)) HL1.out (XB_below wq y).size ?_; intro v71 w71 ho71 hg71; have hb71 := (XB_below wq y).trans (grown_below (XB_own wq y) hg71 (XB_below wq y).size); have hy71 := XB_new wq y w71 hg71)
                  | (refine step_erow (by rfl) _ _ (by rfl) wq.heap.size _ [] (by rfl) (XC_own wq) _ (L.take n) (by rfl) (HF.out _ (XC_below wq)) HL1.out (XC_below wq).size ?_; intro v71 w71 ho71 hg71; have hb71 := (XC_below wq).trans (grown_below (XC_own wq) hg71 (XC_below wq).size))
                  | (refine step_erow (by rfl) _ _ (by rfl) wq.heap.size _ _ (by rfl) ho71 _ [y] (by rfl) hy71 HL2.out hb71.size ?_; intro v74 w74 ho74 hg74; have hb74 := hb71.trans (grown_below ho71 hg74 hb71.size))
                  | (refine step_erow (by rfl) _ _ (by rfl) wq.heap.size _ _ (by rfl) (ho71.below ((Below.refl _ w71).alloc (Nat.le_refl _) (EO y))) _ [y] (by rfl) (EO_row w71 y) HL2.out (hb71.alloc hb71.size (EO y)).size ?_; intro v74 w74 ho74 hg74; have hb74 := (hb71.alloc hb71.size (EO y)).trans (grown_below (ho71.below ((Below.refl _ w71).alloc (Nat.le_refl _) (EO y))) hg74 (hb71.alloc hb71.size (EO y)).size))
                  | (refine step_erow (by rfl) _ _ (by rfl) wq.heap.size _ _ (by rfl) ho74 _ (L.drop n) (by rfl) (HD.out _ hb74) HL3.out hb74.size ?_; intro v79 w79 ho79 hg79; have hb79 := hb74.trans (grown_below ho74 hg79 hb74.size))
                  | fail)
                all_goals have HO79 := hideIt ho79
                all_goals have HB79 := hideIt hb79
                all_goals clear ho79 hb79 ho74 hb74 ho71 hb71 hg71 hg74 hg79
                all_goals obtain ⟨f1, f2, f3, f4, f5⟩ := HNXT.out _ _ HO79.out HB79.out
                all_goals have HF1 := hideIt f1
                all_goals have HF2 := hideIt f2
                all_goals have HF3 := hideIt f3
                all_goals have HF5 := hideIt f5
                all_goals clear f1 f2 f3 f5 HNXT HO79 HB79
                all_goals go_wp2
                all_goals go_roundw
                all_goals first | exact ⟨i + 1, withL L y, by omega, by omega, by go_num, HF1.out, HF2.out, HF3.out, f4, HF5.out⟩ | (simp [intOf]; omega)
              · have HD : Hid (∀ w', Below wq.heap.size wq w' → ERow w' (.slice (some ⟨g, a * 3, none⟩) r2 r) (L.drop a)) := hideIt (fun w' h => by have := HD0.out w' h; rw [if_neg hcq] at this; exact this)
                clear HD0
                go_region_held3 (fun X => X.cell? ⟨wo.heap.size, 0, none⟩ = some (.string y.nm) ∧ X.cell? ⟨wo.heap.size, 1, none⟩ = some (.int .i64 y.md) ∧ X.cell? ⟨wo.heap.size, 2, none⟩ = some (.string y.ids)) (first | exact ⟨y0, y1, y2⟩ | exact HSB.out _ hb79 | exact HSB.out _ hb74 | exact HSB.out _ hb71 | go_keep) (first
                  | (refine step_erow (by rfl) _ _ (by rfl) wq.heap.size _ [] (by rfl) (XA_own wq y) _ (L.take a) (by rfl) (HF.out _ (XA_below wq y)) HL1.out (XA_below wq y).size ?_; intro v71 w71 ho71 hg71; have hb71 := (XA_below wq y).trans (grown_below (XA_own wq y) hg71 (XA_below wq y).size); have hy71 := XA_new wq y w71 hg71)
                  | (refine step_erow (by rfl) _ _ (by rfl) wq.heap.size _ [] (by rfl) (XB_own wq y) _ (L.take a) (by rfl) (HF.out _ (XB_below wq y)) HL1.out (XB_below wq y).size ?_; intro v71 w71 ho71 hg71; have hb71 := (XB_below wq y).trans (grown_below (XB_own wq y) hg71 (XB_below wq y).size); have hy71 := XB_new wq y w71 hg71)
                  | (refine step_erow (by rfl) _ _ (by rfl) wq.heap.size _ [] (by rfl) (XC_own wq) _ (L.take a) (by rfl) (HF.out _ (XC_below wq)) HL1.out (XC_below wq).size ?_; intro v71 w71 ho71 hg71; have hb71 := (XC_below wq).trans (grown_below (XC_own wq) hg71 (XC_below wq).size))
                  | (refine step_erow (by rfl) _ _ (by rfl) wq.heap.size _ _ (by rfl) ho71 _ [y] (by rfl) hy71 HL2.out hb71.size ?_; intro v74 w74 ho74 hg74; have hb74 := hb71.trans (grown_below ho71 hg74 hb71.size))
                  | (refine step_erow (by rfl) _ _ (by rfl) wq.heap.size _ _ (by rfl) (ho71.below ((Below.refl _ w71).alloc (Nat.le_refl _) (EO y))) _ [y] (by rfl) (EO_row w71 y) HL2.out (hb71.alloc hb71.size (EO y)).size ?_; intro v74 w74 ho74 hg74; have hb74 := (hb71.alloc hb71.size (EO y)).trans (grown_below (ho71.below ((Below.refl _ w71).alloc (Nat.le_refl _) (EO y))) hg74 (hb71.alloc hb71.size (EO y)).size))
                  | (refine step_erow (by rfl) _ _ (by rfl) wq.heap.size _ _ (by rfl) ho74 _ (L.drop a) (by rfl) (HD.out _ hb74) HL3.out hb74.size ?_; intro v79 w79 ho79 hg79; have hb79 := hb74.trans (grown_below ho74 hg79 hb74.size))
                  | fail)
                all_goals have HO79 := hideIt ho79
                all_goals have HB79 := hideIt hb79
                all_goals clear ho79 hb79 ho74 hb74 ho71 hb71 hg71 hg74 hg79
                all_goals obtain ⟨f1, f2, f3, f4, f5⟩ := HNXT.out _ _ HO79.out HB79.out
                all_goals have HF1 := hideIt f1
                all_goals have HF2 := hideIt f2
                all_goals have HF3 := hideIt f3
                all_goals have HF5 := hideIt f5
                all_goals clear f1 f2 f3 f5 HNXT HO79 HB79
                all_goals go_wp2
                all_goals go_roundw
                all_goals first | exact ⟨i + 1, withL L y, by omega, by omega, by go_num, HF1.out, HF2.out, HF3.out, f4, HF5.out⟩ | (simp [intOf]; omega)
        · have a1 : ¬ (a : Int) < (n : Int) := by omega
          have a2 : decide ((a : Int) < (n : Int)) = false := decide_eq_false a1
          have HPF : Hid (pos L y.nm = a ∧ found L y.nm = false) := hideIt (by
            have hp : pos L y.nm = a := pos_is HUP.out y.nm a (by rw [HN.out]; omega) HALL.out (fun z hz => by rw [List.getElem?_eq_none (by rw [HN.out]; omega)] at hz; cases hz)
            refine ⟨hp, ?_⟩
            rw [found, hp, List.getElem?_eq_none (by rw [HN.out]; omega)])
          go_wp2
          go_quiet (fail)
          go_wp2
          obtain ⟨wp, hwp, HBP0⟩ : ∃ wp, wr.drewN nq = wp ∧ Below wr.heap.size wr wp := ⟨_, rfl, below_drewN _ _⟩
          rw [hwp]
          have HBP := hideIt (below2 HBA.out HBP0)
          have HBPC := hideIt (below2 HBQ.out HBP0)
          clear hwp
          obtain ⟨y0, y1, y2⟩ := three_cells ((HBP.out.block wo.heap.size hlW).trans HBX.out)
          go_quiet (fail)
          go_wp2
          obtain ⟨wq, hwq, HBQ30⟩ : ∃ wq, wp.drewN nq = wq ∧ Below wp.heap.size wp wq := ⟨_, rfl, below_drewN _ _⟩
          rw [hwq]
          have HBQ3 := hideIt (below2 HBP.out HBQ30)
          have HBQ1 := hideIt (below2 HBPC.out HBQ30)
          clear hwq
          obtain ⟨y0, y1, y2⟩ := three_cells ((HBQ3.out.block wo.heap.size hlW).trans HBX.out)
          have hqn : a ≤ n := by omega
          have q1 : (a : Int) ≤ (n : Int) := by omega
          have p1 : (a : Int) ≤ (cap : Int) := by omega
          have p2 : (n : Int) ≤ (cap : Int) := by omega
          have p3 : IntKind.i64.wrap (a : Int) = (a : Int) := by rw [IntKind.wrap_i64]; omega
          have HWE : Hid (([] ++ L.take a ++ [y]) ++ L.drop a = withL L y) := hideIt (by
            rw [withL, HPF.out.1, HPF.out.2]
            simp)
          have HMQ := hideIt (HOM.out.below (below2 HBW.out HBQ3.out))
          have HRC : Hid (∀ w', Below wq.heap.size wq w' → ECells w' g 0 L ∨ L = []) := hideIt (fun w' h => row_cells (HMQ.out.below h).own)
          have HF : Hid (∀ w', Below wq.heap.size wq w' → ERow w' (.slice (some ⟨g, 0, none⟩) a cap) (L.take a)) := hideIt (fun w' h => first_row (HRC.out w' h) hcm HN.out (by omega) hnc)
          have HD0 : Hid (∀ w', Below wq.heap.size wq w' → ERow w' (.slice (if cap = a then some ⟨g, 0, none⟩ else some ⟨g, a * 3, none⟩) (n - a) (cap - a)) (L.drop a)) := hideIt (fun w' h => third_row (HRC.out w' h) hcm HN.out hqn hnc)
          have HSB : Hid (∀ w', Below wq.heap.size wq w' → w'.cell? ⟨wo.heap.size, 0, none⟩ = some (.string y.nm) ∧ w'.cell? ⟨wo.heap.size, 1, none⟩ = some (.int .i64 y.md) ∧ w'.cell? ⟨wo.heap.size, 2, none⟩ = some (.string y.ids)) := hideIt (fun w' h => three_cells (((below2 HBQ3.out h).block wo.heap.size hlW).trans HBX.out))
          have HL1 : Hid (([] : List En).length + (L.take a).length ≤ 1000000) := hideIt (by have := HN.out; simp; omega)
          have HL2 : Hid (([] ++ L.take a : List En).length + [y].length ≤ 1000000) := hideIt (by have := HN.out; simp; omega)
          have HL3 : Hid ((([] ++ L.take a) ++ [y] : List En).length + (L.drop a).length ≤ 1000000) := hideIt (by have := HN.out; simp; omega)
          have HNXT : Hid (∀ v w', Own2 wq.heap.size w' v (([] ++ L.take a ++ [y]) ++ L.drop a) → Below wq.heap.size wq w' → w'.ownsRow w.heap.size 36 3 v1 (withL L y).length (esV (withL L y)) ∧ Own2 w.heap.size w' v (withL L y) ∧ Up (withL L y) ∧ (withL L y).length ≤ i + 1 ∧ Below w.heap.size w w') := hideIt (fun v w' h1 h2 => by
            have hww : w.heap.size ≤ wo.heap.size := HB.out.size
            have hwq : wo.heap.size ≤ wq.heap.size := Nat.le_trans HBW.out.size HBQ3.out.size
            rw [HWE.out] at h1
            refine ⟨own_below (own_mono HO1.out (by have := HBW.out.size; omega)) (below2 HBQ1.out h2), ⟨own_mono h1.own (by omega), h1.ne⟩, up_with HUP.out y, by have := with_len L y; have := HN.out; omega, below2 HB.out (below2 HBW.out (below2 HBQ3.out h2))⟩)
          obtain ⟨r, hr⟩ : ∃ r, cap - a = r := ⟨_, rfl⟩
          obtain ⟨r2, hr2⟩ : ∃ r2, n - a = r2 := ⟨_, rfl⟩
          rw [hr, hr2] at HD0
          have hI1 : ((cap : Int) - (a : Int)) = (r : Int) := by omega
          have hI2 : ((n : Int) - (a : Int)) = (r2 : Int) := by omega
          by_cases hcq : cap = a
          · obtain rfl : n = cap := by omega
            subst hcq
            obtain rfl : r = 0 := by omega
            obtain rfl : r2 = 0 := by omega
            have HD : Hid (∀ w', Below wq.heap.size wq w' → ERow w' (.slice (some ⟨g, 0, none⟩) 0 0) (L.drop n)) := hideIt (fun w' h => by have := HD0.out w' h; rw [if_pos rfl] at this; exact this)
            clear HD0 hI1 hI2
            go_region_held3 (fun X => X.cell? ⟨wo.heap.size, 0, none⟩ = some (.string y.nm) ∧ X.cell? ⟨wo.heap.size, 1, none⟩ = some (.int .i64 y.md) ∧ X.cell? ⟨wo.heap.size, 2, none⟩ = some (.string y.ids)) (first | exact ⟨y0, y1, y2⟩ | exact HSB.out _ hb79 | exact HSB.out _ hb74 | exact HSB.out _ hb71 | go_keep) (first
              | (refine step_erow (by rfl) _ _ (by rfl) wq.heap.size _ [] (by rfl) (XA_own wq y) _ (L.take n) (by rfl) (HF.out _ (XA_below wq y)) HL1.out (XA_below wq y).size ?_; intro v71 w71 ho71 hg71; have hb71 := (XA_below wq y).trans (grown_below (XA_own wq y) hg71 (XA_below wq y).size); have hy71 := XA_new wq y w71 hg71)
              | (refine step_erow (by rfl) _ _ (by rfl) wq.heap.size _ [] (by rfl) (XB_own wq y) _ (L.take n) (by rfl) (HF.out _ (XB_below wq y)) HL1.out (XB_below wq y).size ?_; intro v71 w71 ho71 hg71; have hb71 := (XB_below wq y).trans (grown_below (XB_own wq y) hg71 (XB_below wq y).size); have hy71 := XB_new wq y w71 hg71)
              | (refine step_erow (by rfl) _ _ (by rfl) wq.heap.size _ [] (by rfl) (XC_own wq) _ (L.take n) (by rfl) (HF.out _ (XC_below wq)) HL1.out (XC_below wq).size ?_; intro v71 w71 ho71 hg71; have hb71 := (XC_below wq).trans (grown_below (XC_own wq) hg71 (XC_below wq).size))
              | (refine step_erow (by rfl) _ _ (by rfl) wq.heap.size _ _ (by rfl) ho71 _ [y] (by rfl) hy71 HL2.out hb71.size ?_; intro v74 w74 ho74 hg74; have hb74 := hb71.trans (grown_below ho71 hg74 hb71.size))
              | (refine step_erow (by rfl) _ _ (by rfl) wq.heap.size _ _ (by rfl) (ho71.below ((Below.refl _ w71).alloc (Nat.le_refl _) (EO y))) _ [y] (by rfl) (EO_row w71 y) HL2.out (hb71.alloc hb71.size (EO y)).size ?_; intro v74 w74 ho74 hg74; have hb74 := (hb71.alloc hb71.size (EO y)).trans (grown_below (ho71.below ((Below.refl _ w71).alloc (Nat.le_refl _) (EO y))) hg74 (hb71.alloc hb71.size (EO y)).size))
              | (refine step_erow (by rfl) _ _ (by rfl) wq.heap.size _ _ (by rfl) ho74 _ (L.drop n) (by rfl) (HD.out _ hb74) HL3.out hb74.size ?_; intro v79 w79 ho79 hg79; have hb79 := hb74.trans (grown_below ho74 hg79 hb74.size))
              | fail)
            all_goals have HO79 := hideIt ho79
            all_goals have HB79 := hideIt hb79
            all_goals clear ho79 hb79 ho74 hb74 ho71 hb71 hg71 hg74 hg79
            all_goals obtain ⟨f1, f2, f3, f4, f5⟩ := HNXT.out _ _ HO79.out HB79.out
            all_goals have HF1 := hideIt f1
            all_goals have HF2 := hideIt f2
            all_goals have HF3 := hideIt f3
            all_goals have HF5 := hideIt f5
            all_goals clear f1 f2 f3 f5 HNXT HO79 HB79
            all_goals go_wp2
            all_goals go_roundw
            all_goals first | exact ⟨i + 1, withL L y, by omega, by omega, by go_num, HF1.out, HF2.out, HF3.out, f4, HF5.out⟩ | (simp [intOf]; omega)
          · have HD : Hid (∀ w', Below wq.heap.size wq w' → ERow w' (.slice (some ⟨g, a * 3, none⟩) r2 r) (L.drop a)) := hideIt (fun w' h => by have := HD0.out w' h; rw [if_neg hcq] at this; exact this)
            clear HD0
            go_region_held3 (fun X => X.cell? ⟨wo.heap.size, 0, none⟩ = some (.string y.nm) ∧ X.cell? ⟨wo.heap.size, 1, none⟩ = some (.int .i64 y.md) ∧ X.cell? ⟨wo.heap.size, 2, none⟩ = some (.string y.ids)) (first | exact ⟨y0, y1, y2⟩ | exact HSB.out _ hb79 | exact HSB.out _ hb74 | exact HSB.out _ hb71 | go_keep) (first
              | (refine step_erow (by rfl) _ _ (by rfl) wq.heap.size _ [] (by rfl) (XA_own wq y) _ (L.take a) (by rfl) (HF.out _ (XA_below wq y)) HL1.out (XA_below wq y).size ?_; intro v71 w71 ho71 hg71; have hb71 := (XA_below wq y).trans (grown_below (XA_own wq y) hg71 (XA_below wq y).size); have hy71 := XA_new wq y w71 hg71)
              | (refine step_erow (by rfl) _ _ (by rfl) wq.heap.size _ [] (by rfl) (XB_own wq y) _ (L.take a) (by rfl) (HF.out _ (XB_below wq y)) HL1.out (XB_below wq y).size ?_; intro v71 w71 ho71 hg71; have hb71 := (XB_below wq y).trans (grown_below (XB_own wq y) hg71 (XB_below wq y).size); have hy71 := XB_new wq y w71 hg71)
              | (refine step_erow (by rfl) _ _ (by rfl) wq.heap.size _ [] (by rfl) (XC_own wq) _ (L.take a) (by rfl) (HF.out _ (XC_below wq)) HL1.out (XC_below wq).size ?_; intro v71 w71 ho71 hg71; have hb71 := (XC_below wq).trans (grown_below (XC_own wq) hg71 (XC_below wq).size))
              | (refine step_erow (by rfl) _ _ (by rfl) wq.heap.size _ _ (by rfl) ho71 _ [y] (by rfl) hy71 HL2.out hb71.size ?_; intro v74 w74 ho74 hg74; have hb74 := hb71.trans (grown_below ho71 hg74 hb71.size))
              | (refine step_erow (by rfl) _ _ (by rfl) wq.heap.size _ _ (by rfl) (ho71.below ((Below.refl _ w71).alloc (Nat.le_refl _) (EO y))) _ [y] (by rfl) (EO_row w71 y) HL2.out (hb71.alloc hb71.size (EO y)).size ?_; intro v74 w74 ho74 hg74; have hb74 := (hb71.alloc hb71.size (EO y)).trans (grown_below (ho71.below ((Below.refl _ w71).alloc (Nat.le_refl _) (EO y))) hg74 (hb71.alloc hb71.size (EO y)).size))
              | (refine step_erow (by rfl) _ _ (by rfl) wq.heap.size _ _ (by rfl) ho74 _ (L.drop a) (by rfl) (HD.out _ hb74) HL3.out hb74.size ?_; intro v79 w79 ho79 hg79; have hb79 := hb74.trans (grown_below ho74 hg79 hb74.size))
              | fail)
            all_goals have HO79 := hideIt ho79
            all_goals have HB79 := hideIt hb79
            all_goals clear ho79 hb79 ho74 hb74 ho71 hb71 hg71 hg74 hg79
            all_goals obtain ⟨f1, f2, f3, f4, f5⟩ := HNXT.out _ _ HO79.out HB79.out
            all_goals have HF1 := hideIt f1
            all_goals have HF2 := hideIt f2
            all_goals have HF3 := hideIt f3
            all_goals have HF5 := hideIt f5
            all_goals clear f1 f2 f3 f5 HNXT HO79 HB79
            all_goals go_wp2
            all_goals go_roundw
            all_goals first | exact ⟨i + 1, withL L y, by omega, by omega, by go_num, HF1.out, HF2.out, HF3.out, f4, HF5.out⟩ | (simp [intOf]; omega)
    · by_cases hx1 : i < xn
      · have i1 : (i : Int) < (xn : Int) := by omega
        have i2 : decide ((i : Int) < (xn : Int)) = true := decide_eq_true i1
        have i3 : ¬ (i : Int) < 20 := by omega
        have i4 : decide ((i : Int) < 20) = false := decide_eq_false i3
        clear i1 i3
        have HLI : Hid (L.length ≤ 20) := hideIt (by omega)
        clear hom hLi hi hi20
        go_wp2
        go_loopw [5, 6, 10] (fun tv mv t wr => ∃ (k : Nat) (L : List En), k ≤ ln ∧ k ≤ 20 ∧ t = .int .i64 k ∧ wr.ownsRow w.heap.size 36 3 tv L.length (esV L) ∧ Own2 w.heap.size wr mv L ∧ Up L ∧ L.length ≤ 20 ∧ Below w.heap.size w wr) (fun _ _ t _ => 20 - (intOf t).toNat)
        case atStart => exact ⟨0, L, by omega, by omega, rfl, HOT.out, HOM.out, HUP.out, HLI.out, HB.out⟩
        case round =>
          clear HOT HOM HUP HLI HB
          obtain ⟨k, L, hk, hk20, rfl, hot, hom, hup, hL20, hb⟩ := hrel
          obtain ⟨wo, hwo⟩ : ∃ wo, wo = wr := ⟨_, rfl⟩
          subst hwo
          have HOT := hideIt hot
          have HOM := hideIt hom
          have HUP := hideIt hup
          have HB := hideIt hb
          have k20 : (k : Int) ≤ 20 := by omega
          obtain ⟨g, cap, rfl, hnc, hcm, _, hgl⟩ := hom.form
          obtain ⟨n, hnn⟩ : ∃ n, L.length = n := ⟨_, rfl⟩
          obtain ⟨ta, tc, rfl⟩ := (ERow.of_row hot).sliceN hnn
          have HN := hideIt hnn
          rw [hnn] at hnc hL20 ⊢
          have nI : (n : Int) ≤ 20 := by omega
          clear hot hom hup hb hnn
          by_cases hlt : k < ln ∧ k < 20
          · obtain ⟨hlt1, hlt2⟩ := hlt
            have i1 : (k : Int) < (ln : Int) := by omega
            have i2 : decide ((k : Int) < (ln : Int)) = true := decide_eq_true i1
            have i3 : (k : Int) < 20 := by omega
            have i4 : decide ((k : Int) < 20) = true := decide_eq_true i3
            obtain ⟨z, hzk⟩ : ∃ z, ll[k]? = some z := ⟨ll[k]'(by rw [HLN.out]; exact hlt1), by simp⟩
            obtain ⟨bl, ol, rfl, l0, l1, l2⟩ := (HLV.out.below HB.out).cellsAt hzk
            have HLC : Hid (∀ w', Below wo.heap.size wo w' → w'.cell? ⟨bl, ol + k * 3, none⟩ = some (.string z.nm)) := hideIt (fun w' h => by
              obtain ⟨b', o', e', c0, _, _⟩ := (HLV.out.below (below2 HB.out h)).cellsAt hzk
              simp only [Option.some.injEq, Addr.mk.injEq] at e'
              obtain ⟨rfl, rfl, -⟩ := e'
              exact c0)
            obtain ⟨nm, hnm⟩ : ∃ nm, z.nm = nm := ⟨_, rfl⟩
            rw [hnm] at l0 HLC
            have HWO := hideIt (HWT.out _ L nm w.heap.size wo HOT.out (by have := HN.out; omega) HUP.out)
            have HCE : Hid (∀ w', Below wo.heap.size wo w' → 0 < n → ECells w' g 0 L) := hideIt (fun w' h h0 => by
              have h1 := (HOM.out.below h).own
              rcases row_cells h1 with h2 | h2
              · exact h2
              · rw [h2] at HN; have := HN.out; simp at this; omega)
            obtain ⟨fd, hfd⟩ : ∃ fd, found L nm = fd := ⟨_, rfl⟩
            have HFD := hideIt hfd
            have HWO2 : Hid (Calls Try.prog 17 #[.slice ta n tc, .string nm] wo fun e w' => ∃ v, e = .returned (.tuple #[v, .bool fd]) ∧ w'.ownsRow wo.heap.size 36 3 v (withoutL L nm).length (esV (withoutL L nm)) ∧ Below wo.heap.size wo w') := hideIt (by
              have := HWO.out
              unfold OutTo at this
              rw [hfd] at this
              exact this)
            clear hzk hnm HWO hfd
            go_wp2_with (first | (go_at_call 17; refine HWO2.out.mono ?_; rintro e w1 ⟨v1, rfl, ho1, hb1⟩; have HO1 := hideIt ho1; have HB1 := hideIt hb1; clear ho1 hb1))
            go_loopw [14] (fun t wr => ∃ a : Nat, a ≤ n ∧ t = .int .i64 a ∧ (∀ j x, j < a → L[j]? = some x → x.nm ≠ nm) ∧ Below w1.heap.size w1 wr) (fun t _ => n - (intOf t).toNat)
            case atStart => exact ⟨0, by omega, rfl, fun j x hj => by omega, Below.refl _ _⟩
            case round =>
              obtain ⟨a, ha, rfl, hall, hbq⟩ := hrel
              have HALL := hideIt hall
              have HBQ := hideIt hbq
              have HBA := hideIt (below2 HB1.out hbq)
              have n0 := HLC.out wr HBA.out
              clear hall hbq
              by_cases han : a < n
              · have a1 : (a : Int) < (n : Int) := by omega
                have a2 : decide ((a : Int) < (n : Int)) = true := decide_eq_true a1
                obtain ⟨x, hxa⟩ : ∃ x, L[a]? = some x := ⟨L[a]'(by rw [HN.out]; exact han), by simp⟩
                obtain ⟨m0, m1, m2⟩ := (HCE.out wr HBA.out (by omega)).2 a x hxa
                rw [Nat.zero_add] at m0 m1 m2
                have HXA := hideIt hxa
                obtain ⟨eq, heq⟩ : ∃ eq, (x.nm.toList == nm.toList) = eq := ⟨_, rfl⟩
                have HEQ := hideIt heq
                clear hxa
                cases eq with
                | false =>
                  go_wp2
                  go_quiet (fail)
                  go_wp2
                  go_roundw
                  case rel =>
                    refine ⟨a + 1, by omega, by go_num, fun j z hj hz => ?_, below2 HBQ.out (below_drewN _ _)⟩
                    rcases (by omega : j < a ∨ j = a) with h | h
                    · exact HALL.out j z h hz
                    · subst h
                      rw [HXA.out] at hz
                      cases hz
                      intro e
                      have := HEQ.out
                      rw [e] at this
                      simp at this
                  case measure => simp [intOf]; omega
                | true =>
                  have hxn : x.nm = nm := by
                    have := HEQ.out
                    rw [ByteArray.toList_eq, ByteArray.toList_eq] at this
                    exact bytes_ext (by simpa using this)
                  have HPF : Hid (pos L nm = a ∧ found L nm = true) := hideIt (by have := pos_name HUP.out a x HXA.out; rw [hxn] at this; exact this)
                  obtain rfl : fd = true := by rw [← HFD.out, HPF.out.2]
                  clear hxn
                  go_wp2
                  go_quiet (fail)
                  go_wp2
                  obtain ⟨wp, hwp, HBP0⟩ : ∃ wp, wr.drewN nq = wp ∧ Below wr.heap.size wr wp := ⟨_, rfl, below_drewN _ _⟩
                  rw [hwp]
                  have HBP := hideIt (below2 HBQ.out HBP0)
                  clear hwp
                  have ha1 : a < n := han
                  obtain ⟨q, hq⟩ : ∃ q, a + 1 = q := ⟨_, rfl⟩
                  have hqn : q ≤ n := by omega
                  have q1 : (q : Int) ≤ (n : Int) := by omega
                  have q4 : IntKind.i64.wrap (q : Int) = (q : Int) := by rw [IntKind.wrap_i64]; omega
                  have q3 : (a : Int) + 1 = (q : Int) := by omega
                  have p1 : (a : Int) ≤ (cap : Int) := by omega
                  have p2 : (n : Int) ≤ (cap : Int) := by omega
                  have p3 : IntKind.i64.wrap (a : Int) = (a : Int) := by rw [IntKind.wrap_i64]; omega
                  have HWE : Hid (([] ++ L.take a) ++ L.drop q = withoutL L nm) := hideIt (by
                    rw [withoutL, HPF.out.1, HPF.out.2, ← hq]
                    simp)
                  have HMQ := hideIt (HOM.out.below (below2 HB1.out HBP.out))
                  have HRC : Hid (∀ w', Below wp.heap.size wp w' → ECells w' g 0 L ∨ L = []) := hideIt (fun w' h => row_cells (HMQ.out.below h).own)
                  have HF : Hid (∀ w', Below wp.heap.size wp w' → ERow w' (.slice (some ⟨g, 0, none⟩) a cap) (L.take a)) := hideIt (fun w' h => first_row (HRC.out w' h) hcm HN.out (by omega) hnc)
                  have HD0 : Hid (∀ w', Below wp.heap.size wp w' → ERow w' (.slice (if cap = q then some ⟨g, 0, none⟩ else some ⟨g, q * 3, none⟩) (n - q) (cap - q)) (L.drop q)) := hideIt (fun w' h => third_row (HRC.out w' h) hcm HN.out hqn hnc)
                  have HL1 : Hid (([] : List En).length + (L.take a).length ≤ 1000000) := hideIt (by have := HN.out; simp; omega)
                  have HL3 : Hid (([] ++ L.take a : List En).length + (L.drop q).length ≤ 1000000) := hideIt (by have := HN.out; simp; omega)
                  have HNXT : Hid (∀ v w', Own2 wp.heap.size w' v (([] ++ L.take a) ++ L.drop q) → Below wp.heap.size wp w' → w'.ownsRow w.heap.size 36 3 v1 (withoutL L nm).length (esV (withoutL L nm)) ∧ Own2 w.heap.size w' v (withoutL L nm) ∧ Up (withoutL L nm) ∧ (withoutL L nm).length ≤ 20 ∧ Below w.heap.size w w') := hideIt (fun v w' h1 h2 => by
                    have hww : w.heap.size ≤ wo.heap.size := HB.out.size
                    have hwq : wo.heap.size ≤ wp.heap.size := Nat.le_trans HB1.out.size HBP.out.size
                    rw [HWE.out] at h1
                    refine ⟨own_below (own_mono HO1.out hww) (below2 HBP.out h2), ⟨own_mono h1.own (by omega), h1.ne⟩, up_without HUP.out nm, by have := without_len L nm; have := HN.out; omega, below2 HB.out (below2 HB1.out (below2 HBP.out h2))⟩)
                  obtain ⟨r, hr⟩ : ∃ r, cap - q = r := ⟨_, rfl⟩
                  obtain ⟨r2, hr2⟩ : ∃ r2, n - q = r2 := ⟨_, rfl⟩
                  rw [hr, hr2] at HD0
                  have hI1 : ((cap : Int) - (q : Int)) = (r : Int) := by omega
                  have hI2 : ((n : Int) - (q : Int)) = (r2 : Int) := by omega
                  by_cases hcq : cap = q
                  · obtain rfl : n = cap := by omega
                    subst hcq
                    obtain rfl : r = 0 := by omega
                    obtain rfl : r2 = 0 := by omega
                    have HD : Hid (∀ w', Below wp.heap.size wp w' → ERow w' (.slice (some ⟨g, 0, none⟩) 0 0) (L.drop n)) := hideIt (fun w' h => by have := HD0.out w' h; rw [if_pos rfl] at this; exact this)
                    clear HD0 hI1 hI2 hq
                    go_region_law (first
                      | (refine step_erow (by rfl) _ _ (by rfl) wp.heap.size _ [] (by rfl) (XC_own wp) _ (L.take a) (by rfl) (HF.out _ (XC_below wp)) HL1.out (XC_below wp).size ?_; intro v71 w71 ho71 hg71; have hb71 := (XC_below wp).trans (grown_below (XC_own wp) hg71 (XC_below wp).size))
                      | (refine step_erow (by rfl) _ _ (by rfl) wp.heap.size _ _ (by rfl) ho71 _ (L.drop n) (by rfl) (HD.out _ hb71) HL3.out hb71.size ?_; intro v79 w79 ho79 hg79; have hb79 := hb71.trans (grown_below ho71 hg79 hb71.size))
                      | fail)
                    all_goals have HO79 := hideIt ho79
                    all_goals have HB79 := hideIt hb79
                    all_goals clear ho79 hb79 ho71 hb71 hg71 hg79
                    all_goals obtain ⟨f1, f2, f3, f4, f5⟩ := HNXT.out _ _ HO79.out HB79.out
                    all_goals have HF1 := hideIt f1
                    all_goals have HF2 := hideIt f2
                    all_goals have HF3 := hideIt f3
                    all_goals have HF5 := hideIt f5
                    all_goals clear f1 f2 f3 f5 HNXT HO79 HB79
                    all_goals go_wp2
                    all_goals go_roundw
                    all_goals first | exact ⟨k + 1, withoutL L nm, by omega, by omega, by go_num, HF1.out, HF2.out, HF3.out, f4, HF5.out⟩ | (simp [intOf]; omega)
                  · have HD : Hid (∀ w', Below wp.heap.size wp w' → ERow w' (.slice (some ⟨g, q * 3, none⟩) r2 r) (L.drop q)) := hideIt (fun w' h => by have := HD0.out w' h; rw [if_neg hcq] at this; exact this)
                    clear HD0 hq
                    go_region_law (first
                      | (refine step_erow (by rfl) _ _ (by rfl) wp.heap.size _ [] (by rfl) (XC_own wp) _ (L.take a) (by rfl) (HF.out _ (XC_below wp)) HL1.out (XC_below wp).size ?_; intro v71 w71 ho71 hg71; have hb71 := (XC_below wp).trans (grown_below (XC_own wp) hg71 (XC_below wp).size))
                      | (refine step_erow (by rfl) _ _ (by rfl) wp.heap.size _ _ (by rfl) ho71 _ (L.drop q) (by rfl) (HD.out _ hb71) HL3.out hb71.size ?_; intro v79 w79 ho79 hg79; have hb79 := hb71.trans (grown_below ho71 hg79 hb71.size))
                      | fail)
                    all_goals have HO79 := hideIt ho79
                    all_goals have HB79 := hideIt hb79
                    all_goals clear ho79 hb79 ho71 hb71 hg71 hg79
                    all_goals obtain ⟨f1, f2, f3, f4, f5⟩ := HNXT.out _ _ HO79.out HB79.out
                    all_goals have HF1 := hideIt f1
                    all_goals have HF2 := hideIt f2
                    all_goals have HF3 := hideIt f3
                    all_goals have HF5 := hideIt f5
                    all_goals clear f1 f2 f3 f5 HNXT HO79 HB79
                    all_goals go_wp2
                    all_goals go_roundw
                    all_goals first | exact ⟨k + 1, withoutL L nm, by omega, by omega, by go_num, HF1.out, HF2.out, HF3.out, f4, HF5.out⟩ | (simp [intOf]; omega)
              · have a1 : ¬ (a : Int) < (n : Int) := by omega
                have a2 : decide ((a : Int) < (n : Int)) = false := decide_eq_false a1
                have hff : found L nm = false := found_none nm (fun j x hx => HALL.out j x (by have := (List.getElem?_eq_some_iff.1 hx).1; rw [HN.out] at this; omega) hx)
                obtain rfl : fd = false := by rw [← HFD.out, hff]
                have HWS := hideIt (without_same hff)
                rw [HWS.out] at HO1
                have hmn := HOM.out.below HBA.out
                rw [HN.out] at hmn
                have HMN := hideIt hmn
                have HOT2 := hideIt (own_below (own_mono HO1.out HB.out.size) HBQ.out)
                have HBN := hideIt (below2 HB.out HBA.out)
                clear hff hmn
                go_wp2
                go_quiet (fail)
                go_wp2
                go_roundw
                case rel => exact ⟨k + 1, L, by omega, by omega, by go_num, HOT2.out.drew, HMN.out.below (below_drewN _ _), HUP.out, by rw [HN.out]; exact hL20, below2 HBN.out (below_drewN _ _)⟩
                case measure => simp [intOf]; omega
          · by_cases hx2 : k < ln
            · have i1 : (k : Int) < (ln : Int) := by omega
              have i2 : decide ((k : Int) < (ln : Int)) = true := decide_eq_true i1
              have i3 : ¬ (k : Int) < 20 := by omega
              have i4 : decide ((k : Int) < 20) = false := decide_eq_false i3
              have HGE := hideIt (fun v w h => fun x (hx : lookE L x.nm = some x) => get_any v L x.nm w h (by have := HN.out; omega) HUP.out)
              go_wp2_with (first | (go_at_call 12; refine (HAW.out _ (HM.out.below HB.out)).mono ?_; rintro e w1 ⟨rfl, hb1⟩; have HB1 := hideIt hb1; clear hb1))
              go_loopw [15] (fun t wr => ∃ j : Nat, j ≤ n ∧ t = .int .i64 j ∧ Below w1.heap.size w1 wr) (fun t _ => n - (intOf t).toNat)
              case atStart => exact ⟨0, by omega, rfl, Below.refl _ _⟩
              case round =>
                obtain ⟨j, hj, rfl, hbq⟩ := hrel
                have HBQ := hideIt hbq
                have HBA := hideIt (below2 HB1.out hbq)
                clear hbq
                by_cases hjn : j < n
                · have a1 : (j : Int) < (n : Int) := by omega
                  have a2 : decide ((j : Int) < (n : Int)) = true := decide_eq_true a1
                  obtain ⟨x, hxj⟩ : ∃ x, L[j]? = some x := ⟨L[j]'(by rw [HN.out]; exact hjn), by simp⟩
                  have HMC : Hid (∀ w', Below wo.heap.size wo w' → w'.cell? ⟨g, j * 3, none⟩ = some (.string x.nm) ∧ w'.cell? ⟨g, j * 3 + 1, none⟩ = some (.int .i64 x.md) ∧ w'.cell? ⟨g, j * 3 + 2, none⟩ = some (.string x.ids)) := hideIt (fun w' h => by
                    have h1 := (HOM.out.below h).own
                    rcases row_cells h1 with h2 | h2
                    · have := h2.2 j x hxj
                      rw [Nat.zero_add] at this
                      exact this
                    · rw [h2] at hxj; simp at hxj)
                  have HTR : Hid (∀ w', Below wo.heap.size wo w' → ERow w' (.slice ta n tc) L) := hideIt (fun w' h => by
                    exact (ERow.of_row HOT.out).below h)
                  obtain ⟨m0, m1, m2⟩ := HMC.out wr HBA.out
                  have HGX := hideIt (HGE.out _ wr (HTR.out wr HBA.out) x (look_at HUP.out j x hxj))
                  rw [look_at HUP.out j x hxj] at HGX
                  have HGX2 : Hid (Calls Try.prog 18 #[.slice ta n tc, .string x.nm] wr fun e w' => e = .returned (.tuple #[.agg #[.string x.nm, .int .i64 x.md, .string x.ids], .bool true]) ∧ Below wr.heap.size wr w') := HGX
                  have HXJ := hideIt hxj
                  clear hxj HGX
                  go_wp2_with (first | (go_at_call 18; refine HGX2.out.mono ?_; rintro e w2 ⟨rfl, hb2⟩; have HB2 := hideIt hb2; clear hb2))
                  obtain ⟨w3, hw3⟩ : ∃ w3, w2.alloc (.cells #[.string x.nm, .int .i64 x.md, .string x.ids] 36) = w3 := ⟨_, rfl⟩
                  have hb23 : Below w2.heap.size w2 w3 := by rw [← hw3]; exact (Below.refl _ _).alloc (Nat.le_refl _) _
                  have HB3 := hideIt (below2 HB2.out hb23)
                  obtain ⟨z0, z1, z2⟩ := three_cells (w := w3) (b := w2.heap.size) (x := x) (t := 36) (fr := (0, 0)) (by rw [← hw3]; exact alloc_at rfl)
                  obtain ⟨m0, m1, m2⟩ := HMC.out w3 (below2 HBA.out HB3.out)
                  obtain ⟨tb, to, rfl, t0, t1, t2⟩ := (HTR.out w3 (below2 HBA.out HB3.out)).cellsAt HXJ.out
                  rw [hw3]
                  clear hw3 hb23
                  go_quiet (fail)
                  go_wp2
                  go_roundw
                  case rel => exact ⟨j + 1, by omega, by go_num, below2 HBQ.out (below2 HB3.out (below_drewN _ _))⟩
                  case measure => simp [intOf]; omega
                · have a1 : ¬ (j : Int) < (n : Int) := by omega
                  have a2 : decide ((j : Int) < (n : Int)) = false := decide_eq_false a1
                  go_wp2
                  go_ret
                  exact ⟨rfl, below2 HB.out HBA.out⟩
            · have i1 : ¬ (k : Int) < (ln : Int) := by omega
              have i2 : decide ((k : Int) < (ln : Int)) = false := decide_eq_false i1
              have HGE := hideIt (fun v w h => fun x (hx : lookE L x.nm = some x) => get_any v L x.nm w h (by have := HN.out; omega) HUP.out)
              go_wp2_with (first | (go_at_call 12; refine (HAW.out _ (HM.out.below HB.out)).mono ?_; rintro e w1 ⟨rfl, hb1⟩; have HB1 := hideIt hb1; clear hb1))
              go_loopw [15] (fun t wr => ∃ j : Nat, j ≤ n ∧ t = .int .i64 j ∧ Below w1.heap.size w1 wr) (fun t _ => n - (intOf t).toNat)
              case atStart => exact ⟨0, by omega, rfl, Below.refl _ _⟩
              case round =>
                obtain ⟨j, hj, rfl, hbq⟩ := hrel
                have HBQ := hideIt hbq
                have HBA := hideIt (below2 HB1.out hbq)
                clear hbq
                by_cases hjn : j < n
                · have a1 : (j : Int) < (n : Int) := by omega
                  have a2 : decide ((j : Int) < (n : Int)) = true := decide_eq_true a1
                  obtain ⟨x, hxj⟩ : ∃ x, L[j]? = some x := ⟨L[j]'(by rw [HN.out]; exact hjn), by simp⟩
                  have HMC : Hid (∀ w', Below wo.heap.size wo w' → w'.cell? ⟨g, j * 3, none⟩ = some (.string x.nm) ∧ w'.cell? ⟨g, j * 3 + 1, none⟩ = some (.int .i64 x.md) ∧ w'.cell? ⟨g, j * 3 + 2, none⟩ = some (.string x.ids)) := hideIt (fun w' h => by
                    have h1 := (HOM.out.below h).own
                    rcases row_cells h1 with h2 | h2
                    · have := h2.2 j x hxj
                      rw [Nat.zero_add] at this
                      exact this
                    · rw [h2] at hxj; simp at hxj)
                  have HTR : Hid (∀ w', Below wo.heap.size wo w' → ERow w' (.slice ta n tc) L) := hideIt (fun w' h => by
                    exact (ERow.of_row HOT.out).below h)
                  obtain ⟨m0, m1, m2⟩ := HMC.out wr HBA.out
                  have HGX := hideIt (HGE.out _ wr (HTR.out wr HBA.out) x (look_at HUP.out j x hxj))
                  rw [look_at HUP.out j x hxj] at HGX
                  have HGX2 : Hid (Calls Try.prog 18 #[.slice ta n tc, .string x.nm] wr fun e w' => e = .returned (.tuple #[.agg #[.string x.nm, .int .i64 x.md, .string x.ids], .bool true]) ∧ Below wr.heap.size wr w') := HGX
                  have HXJ := hideIt hxj
                  clear hxj HGX
                  go_wp2_with (first | (go_at_call 18; refine HGX2.out.mono ?_; rintro e w2 ⟨rfl, hb2⟩; have HB2 := hideIt hb2; clear hb2))
                  obtain ⟨w3, hw3⟩ : ∃ w3, w2.alloc (.cells #[.string x.nm, .int .i64 x.md, .string x.ids] 36) = w3 := ⟨_, rfl⟩
                  have hb23 : Below w2.heap.size w2 w3 := by rw [← hw3]; exact (Below.refl _ _).alloc (Nat.le_refl _) _
                  have HB3 := hideIt (below2 HB2.out hb23)
                  obtain ⟨z0, z1, z2⟩ := three_cells (w := w3) (b := w2.heap.size) (x := x) (t := 36) (fr := (0, 0)) (by rw [← hw3]; exact alloc_at rfl)
                  obtain ⟨m0, m1, m2⟩ := HMC.out w3 (below2 HBA.out HB3.out)
                  obtain ⟨tb, to, rfl, t0, t1, t2⟩ := (HTR.out w3 (below2 HBA.out HB3.out)).cellsAt HXJ.out
                  rw [hw3]
                  clear hw3 hb23
                  go_quiet (fail)
                  go_wp2
                  go_roundw
                  case rel => exact ⟨j + 1, by omega, by go_num, below2 HBQ.out (below2 HB3.out (below_drewN _ _))⟩
                  case measure => simp [intOf]; omega
                · have a1 : ¬ (j : Int) < (n : Int) := by omega
                  have a2 : decide ((j : Int) < (n : Int)) = false := decide_eq_false a1
                  go_wp2
                  go_ret
                  exact ⟨rfl, below2 HB.out HBA.out⟩
      · have i1 : ¬ (i : Int) < (xn : Int) := by omega
        have i2 : decide ((i : Int) < (xn : Int)) = false := decide_eq_false i1
        have HLI : Hid (L.length ≤ 20) := hideIt (by omega)
        clear hom hLi hi hi20
        go_wp2
        go_loopw [5, 6, 10] (fun tv mv t wr => ∃ (k : Nat) (L : List En), k ≤ ln ∧ k ≤ 20 ∧ t = .int .i64 k ∧ wr.ownsRow w.heap.size 36 3 tv L.length (esV L) ∧ Own2 w.heap.size wr mv L ∧ Up L ∧ L.length ≤ 20 ∧ Below w.heap.size w wr) (fun _ _ t _ => 20 - (intOf t).toNat)
        case atStart => exact ⟨0, L, by omega, by omega, rfl, HOT.out, HOM.out, HUP.out, HLI.out, HB.out⟩
        case round =>
          clear HOT HOM HUP HLI HB
          obtain ⟨k, L, hk, hk20, rfl, hot, hom, hup, hL20, hb⟩ := hrel
          obtain ⟨wo, hwo⟩ : ∃ wo, wo = wr := ⟨_, rfl⟩
          subst hwo
          have HOT := hideIt hot
          have HOM := hideIt hom
          have HUP := hideIt hup
          have HB := hideIt hb
          have k20 : (k : Int) ≤ 20 := by omega
          obtain ⟨g, cap, rfl, hnc, hcm, _, hgl⟩ := hom.form
          obtain ⟨n, hnn⟩ : ∃ n, L.length = n := ⟨_, rfl⟩
          obtain ⟨ta, tc, rfl⟩ := (ERow.of_row hot).sliceN hnn
          have HN := hideIt hnn
          rw [hnn] at hnc hL20 ⊢
          have nI : (n : Int) ≤ 20 := by omega
          clear hot hom hup hb hnn
          by_cases hlt : k < ln ∧ k < 20
          · obtain ⟨hlt1, hlt2⟩ := hlt
            have i1 : (k : Int) < (ln : Int) := by omega
            have i2 : decide ((k : Int) < (ln : Int)) = true := decide_eq_true i1
            have i3 : (k : Int) < 20 := by omega
            have i4 : decide ((k : Int) < 20) = true := decide_eq_true i3
            obtain ⟨z, hzk⟩ : ∃ z, ll[k]? = some z := ⟨ll[k]'(by rw [HLN.out]; exact hlt1), by simp⟩
            obtain ⟨bl, ol, rfl, l0, l1, l2⟩ := (HLV.out.below HB.out).cellsAt hzk
            have HLC : Hid (∀ w', Below wo.heap.size wo w' → w'.cell? ⟨bl, ol + k * 3, none⟩ = some (.string z.nm)) := hideIt (fun w' h => by
              obtain ⟨b', o', e', c0, _, _⟩ := (HLV.out.below (below2 HB.out h)).cellsAt hzk
              simp only [Option.some.injEq, Addr.mk.injEq] at e'
              obtain ⟨rfl, rfl, -⟩ := e'
              exact c0)
            obtain ⟨nm, hnm⟩ : ∃ nm, z.nm = nm := ⟨_, rfl⟩
            rw [hnm] at l0 HLC
            have HWO := hideIt (HWT.out _ L nm w.heap.size wo HOT.out (by have := HN.out; omega) HUP.out)
            have HCE : Hid (∀ w', Below wo.heap.size wo w' → 0 < n → ECells w' g 0 L) := hideIt (fun w' h h0 => by
              have h1 := (HOM.out.below h).own
              rcases row_cells h1 with h2 | h2
              · exact h2
              · rw [h2] at HN; have := HN.out; simp at this; omega)
            obtain ⟨fd, hfd⟩ : ∃ fd, found L nm = fd := ⟨_, rfl⟩
            have HFD := hideIt hfd
            have HWO2 : Hid (Calls Try.prog 17 #[.slice ta n tc, .string nm] wo fun e w' => ∃ v, e = .returned (.tuple #[v, .bool fd]) ∧ w'.ownsRow wo.heap.size 36 3 v (withoutL L nm).length (esV (withoutL L nm)) ∧ Below wo.heap.size wo w') := hideIt (by
              have := HWO.out
              unfold OutTo at this
              rw [hfd] at this
              exact this)
            clear hzk hnm HWO hfd
            go_wp2_with (first | (go_at_call 17; refine HWO2.out.mono ?_; rintro e w1 ⟨v1, rfl, ho1, hb1⟩; have HO1 := hideIt ho1; have HB1 := hideIt hb1; clear ho1 hb1))
            go_loopw [14] (fun t wr => ∃ a : Nat, a ≤ n ∧ t = .int .i64 a ∧ (∀ j x, j < a → L[j]? = some x → x.nm ≠ nm) ∧ Below w1.heap.size w1 wr) (fun t _ => n - (intOf t).toNat)
            case atStart => exact ⟨0, by omega, rfl, fun j x hj => by omega, Below.refl _ _⟩
            case round =>
              obtain ⟨a, ha, rfl, hall, hbq⟩ := hrel
              have HALL := hideIt hall
              have HBQ := hideIt hbq
              have HBA := hideIt (below2 HB1.out hbq)
              have n0 := HLC.out wr HBA.out
              clear hall hbq
              by_cases han : a < n
              · have a1 : (a : Int) < (n : Int) := by omega
                have a2 : decide ((a : Int) < (n : Int)) = true := decide_eq_true a1
                obtain ⟨x, hxa⟩ : ∃ x, L[a]? = some x := ⟨L[a]'(by rw [HN.out]; exact han), by simp⟩
                obtain ⟨m0, m1, m2⟩ := (HCE.out wr HBA.out (by omega)).2 a x hxa
                rw [Nat.zero_add] at m0 m1 m2
                have HXA := hideIt hxa
                obtain ⟨eq, heq⟩ : ∃ eq, (x.nm.toList == nm.toList) = eq := ⟨_, rfl⟩
                have HEQ := hideIt heq
                clear hxa
                cases eq with
                | false =>
                  go_wp2
                  go_quiet (fail)
                  go_wp2
                  go_roundw
                  case rel =>
                    refine ⟨a + 1, by omega, by go_num, fun j z hj hz => ?_, below2 HBQ.out (below_drewN _ _)⟩
                    rcases (by omega : j < a ∨ j = a) with h | h
                    · exact HALL.out j z h hz
                    · subst h
                      rw [HXA.out] at hz
                      cases hz
                      intro e
                      have := HEQ.out
                      rw [e] at this
                      simp at this
                  case measure => simp [intOf]; omega
                | true =>
                  have hxn : x.nm = nm := by
                    have := HEQ.out
                    rw [ByteArray.toList_eq, ByteArray.toList_eq] at this
                    exact bytes_ext (by simpa using this)
                  have HPF : Hid (pos L nm = a ∧ found L nm = true) := hideIt (by have := pos_name HUP.out a x HXA.out; rw [hxn] at this; exact this)
                  obtain rfl : fd = true := by rw [← HFD.out, HPF.out.2]
                  clear hxn
                  go_wp2
                  go_quiet (fail)
                  go_wp2
                  obtain ⟨wp, hwp, HBP0⟩ : ∃ wp, wr.drewN nq = wp ∧ Below wr.heap.size wr wp := ⟨_, rfl, below_drewN _ _⟩
                  rw [hwp]
                  have HBP := hideIt (below2 HBQ.out HBP0)
                  clear hwp
                  have ha1 : a < n := han
                  obtain ⟨q, hq⟩ : ∃ q, a + 1 = q := ⟨_, rfl⟩
                  have hqn : q ≤ n := by omega
                  have q1 : (q : Int) ≤ (n : Int) := by omega
                  have q4 : IntKind.i64.wrap (q : Int) = (q : Int) := by rw [IntKind.wrap_i64]; omega
                  have q3 : (a : Int) + 1 = (q : Int) := by omega
                  have p1 : (a : Int) ≤ (cap : Int) := by omega
                  have p2 : (n : Int) ≤ (cap : Int) := by omega
                  have p3 : IntKind.i64.wrap (a : Int) = (a : Int) := by rw [IntKind.wrap_i64]; omega
                  have HWE : Hid (([] ++ L.take a) ++ L.drop q = withoutL L nm) := hideIt (by
                    rw [withoutL, HPF.out.1, HPF.out.2, ← hq]
                    simp)
                  have HMQ := hideIt (HOM.out.below (below2 HB1.out HBP.out))
                  have HRC : Hid (∀ w', Below wp.heap.size wp w' → ECells w' g 0 L ∨ L = []) := hideIt (fun w' h => row_cells (HMQ.out.below h).own)
                  have HF : Hid (∀ w', Below wp.heap.size wp w' → ERow w' (.slice (some ⟨g, 0, none⟩) a cap) (L.take a)) := hideIt (fun w' h => first_row (HRC.out w' h) hcm HN.out (by omega) hnc)
                  have HD0 : Hid (∀ w', Below wp.heap.size wp w' → ERow w' (.slice (if cap = q then some ⟨g, 0, none⟩ else some ⟨g, q * 3, none⟩) (n - q) (cap - q)) (L.drop q)) := hideIt (fun w' h => third_row (HRC.out w' h) hcm HN.out hqn hnc)
                  have HL1 : Hid (([] : List En).length + (L.take a).length ≤ 1000000) := hideIt (by have := HN.out; simp; omega)
                  have HL3 : Hid (([] ++ L.take a : List En).length + (L.drop q).length ≤ 1000000) := hideIt (by have := HN.out; simp; omega)
                  have HNXT : Hid (∀ v w', Own2 wp.heap.size w' v (([] ++ L.take a) ++ L.drop q) → Below wp.heap.size wp w' → w'.ownsRow w.heap.size 36 3 v1 (withoutL L nm).length (esV (withoutL L nm)) ∧ Own2 w.heap.size w' v (withoutL L nm) ∧ Up (withoutL L nm) ∧ (withoutL L nm).length ≤ 20 ∧ Below w.heap.size w w') := hideIt (fun v w' h1 h2 => by
                    have hww : w.heap.size ≤ wo.heap.size := HB.out.size
                    have hwq : wo.heap.size ≤ wp.heap.size := Nat.le_trans HB1.out.size HBP.out.size
                    rw [HWE.out] at h1
                    refine ⟨own_below (own_mono HO1.out hww) (below2 HBP.out h2), ⟨own_mono h1.own (by omega), h1.ne⟩, up_without HUP.out nm, by have := without_len L nm; have := HN.out; omega, below2 HB.out (below2 HB1.out (below2 HBP.out h2))⟩)
                  obtain ⟨r, hr⟩ : ∃ r, cap - q = r := ⟨_, rfl⟩
                  obtain ⟨r2, hr2⟩ : ∃ r2, n - q = r2 := ⟨_, rfl⟩
                  rw [hr, hr2] at HD0
                  have hI1 : ((cap : Int) - (q : Int)) = (r : Int) := by omega
                  have hI2 : ((n : Int) - (q : Int)) = (r2 : Int) := by omega
                  by_cases hcq : cap = q
                  · obtain rfl : n = cap := by omega
                    subst hcq
                    obtain rfl : r = 0 := by omega
                    obtain rfl : r2 = 0 := by omega
                    have HD : Hid (∀ w', Below wp.heap.size wp w' → ERow w' (.slice (some ⟨g, 0, none⟩) 0 0) (L.drop n)) := hideIt (fun w' h => by have := HD0.out w' h; rw [if_pos rfl] at this; exact this)
                    clear HD0 hI1 hI2 hq
                    go_region_law (first
                      | (refine step_erow (by rfl) _ _ (by rfl) wp.heap.size _ [] (by rfl) (XC_own wp) _ (L.take a) (by rfl) (HF.out _ (XC_below wp)) HL1.out (XC_below wp).size ?_; intro v71 w71 ho71 hg71; have hb71 := (XC_below wp).trans (grown_below (XC_own wp) hg71 (XC_below wp).size))
                      | (refine step_erow (by rfl) _ _ (by rfl) wp.heap.size _ _ (by rfl) ho71 _ (L.drop n) (by rfl) (HD.out _ hb71) HL3.out hb71.size ?_; intro v79 w79 ho79 hg79; have hb79 := hb71.trans (grown_below ho71 hg79 hb71.size))
                      | fail)
                    all_goals have HO79 := hideIt ho79
                    all_goals have HB79 := hideIt hb79
                    all_goals clear ho79 hb79 ho71 hb71 hg71 hg79
                    all_goals obtain ⟨f1, f2, f3, f4, f5⟩ := HNXT.out _ _ HO79.out HB79.out
                    all_goals have HF1 := hideIt f1
                    all_goals have HF2 := hideIt f2
                    all_goals have HF3 := hideIt f3
                    all_goals have HF5 := hideIt f5
                    all_goals clear f1 f2 f3 f5 HNXT HO79 HB79
                    all_goals go_wp2
                    all_goals go_roundw
                    all_goals first | exact ⟨k + 1, withoutL L nm, by omega, by omega, by go_num, HF1.out, HF2.out, HF3.out, f4, HF5.out⟩ | (simp [intOf]; omega)
                  · have HD : Hid (∀ w', Below wp.heap.size wp w' → ERow w' (.slice (some ⟨g, q * 3, none⟩) r2 r) (L.drop q)) := hideIt (fun w' h => by have := HD0.out w' h; rw [if_neg hcq] at this; exact this)
                    clear HD0 hq
                    go_region_law (first
                      | (refine step_erow (by rfl) _ _ (by rfl) wp.heap.size _ [] (by rfl) (XC_own wp) _ (L.take a) (by rfl) (HF.out _ (XC_below wp)) HL1.out (XC_below wp).size ?_; intro v71 w71 ho71 hg71; have hb71 := (XC_below wp).trans (grown_below (XC_own wp) hg71 (XC_below wp).size))
                      | (refine step_erow (by rfl) _ _ (by rfl) wp.heap.size _ _ (by rfl) ho71 _ (L.drop q) (by rfl) (HD.out _ hb71) HL3.out hb71.size ?_; intro v79 w79 ho79 hg79; have hb79 := hb71.trans (grown_below ho71 hg79 hb71.size))
                      | fail)
                    all_goals have HO79 := hideIt ho79
                    all_goals have HB79 := hideIt hb79
                    all_goals clear ho79 hb79 ho71 hb71 hg71 hg79
                    all_goals obtain ⟨f1, f2, f3, f4, f5⟩ := HNXT.out _ _ HO79.out HB79.out
                    all_goals have HF1 := hideIt f1
                    all_goals have HF2 := hideIt f2
                    all_goals have HF3 := hideIt f3
                    all_goals have HF5 := hideIt f5
                    all_goals clear f1 f2 f3 f5 HNXT HO79 HB79
                    all_goals go_wp2
                    all_goals go_roundw
                    all_goals first | exact ⟨k + 1, withoutL L nm, by omega, by omega, by go_num, HF1.out, HF2.out, HF3.out, f4, HF5.out⟩ | (simp [intOf]; omega)
              · have a1 : ¬ (a : Int) < (n : Int) := by omega
                have a2 : decide ((a : Int) < (n : Int)) = false := decide_eq_false a1
                have hff : found L nm = false := found_none nm (fun j x hx => HALL.out j x (by have := (List.getElem?_eq_some_iff.1 hx).1; rw [HN.out] at this; omega) hx)
                obtain rfl : fd = false := by rw [← HFD.out, hff]
                have HWS := hideIt (without_same hff)
                rw [HWS.out] at HO1
                have hmn := HOM.out.below HBA.out
                rw [HN.out] at hmn
                have HMN := hideIt hmn
                have HOT2 := hideIt (own_below (own_mono HO1.out HB.out.size) HBQ.out)
                have HBN := hideIt (below2 HB.out HBA.out)
                clear hff hmn
                go_wp2
                go_quiet (fail)
                go_wp2
                go_roundw
                case rel => exact ⟨k + 1, L, by omega, by omega, by go_num, HOT2.out.drew, HMN.out.below (below_drewN _ _), HUP.out, by rw [HN.out]; exact hL20, below2 HBN.out (below_drewN _ _)⟩
                case measure => simp [intOf]; omega
          · by_cases hx2 : k < ln
            · have i1 : (k : Int) < (ln : Int) := by omega
              have i2 : decide ((k : Int) < (ln : Int)) = true := decide_eq_true i1
              have i3 : ¬ (k : Int) < 20 := by omega
              have i4 : decide ((k : Int) < 20) = false := decide_eq_false i3
              have HGE := hideIt (fun v w h => fun x (hx : lookE L x.nm = some x) => get_any v L x.nm w h (by have := HN.out; omega) HUP.out)
              go_wp2_with (first | (go_at_call 12; refine (HAW.out _ (HM.out.below HB.out)).mono ?_; rintro e w1 ⟨rfl, hb1⟩; have HB1 := hideIt hb1; clear hb1))
              go_loopw [15] (fun t wr => ∃ j : Nat, j ≤ n ∧ t = .int .i64 j ∧ Below w1.heap.size w1 wr) (fun t _ => n - (intOf t).toNat)
              case atStart => exact ⟨0, by omega, rfl, Below.refl _ _⟩
              case round =>
                obtain ⟨j, hj, rfl, hbq⟩ := hrel
                have HBQ := hideIt hbq
                have HBA := hideIt (below2 HB1.out hbq)
                clear hbq
                by_cases hjn : j < n
                · have a1 : (j : Int) < (n : Int) := by omega
                  have a2 : decide ((j : Int) < (n : Int)) = true := decide_eq_true a1
                  obtain ⟨x, hxj⟩ : ∃ x, L[j]? = some x := ⟨L[j]'(by rw [HN.out]; exact hjn), by simp⟩
                  have HMC : Hid (∀ w', Below wo.heap.size wo w' → w'.cell? ⟨g, j * 3, none⟩ = some (.string x.nm) ∧ w'.cell? ⟨g, j * 3 + 1, none⟩ = some (.int .i64 x.md) ∧ w'.cell? ⟨g, j * 3 + 2, none⟩ = some (.string x.ids)) := hideIt (fun w' h => by
                    have h1 := (HOM.out.below h).own
                    rcases row_cells h1 with h2 | h2
                    · have := h2.2 j x hxj
                      rw [Nat.zero_add] at this
                      exact this
                    · rw [h2] at hxj; simp at hxj)
                  have HTR : Hid (∀ w', Below wo.heap.size wo w' → ERow w' (.slice ta n tc) L) := hideIt (fun w' h => by
                    exact (ERow.of_row HOT.out).below h)
                  obtain ⟨m0, m1, m2⟩ := HMC.out wr HBA.out
                  have HGX := hideIt (HGE.out _ wr (HTR.out wr HBA.out) x (look_at HUP.out j x hxj))
                  rw [look_at HUP.out j x hxj] at HGX
                  have HGX2 : Hid (Calls Try.prog 18 #[.slice ta n tc, .string x.nm] wr fun e w' => e = .returned (.tuple #[.agg #[.string x.nm, .int .i64 x.md, .string x.ids], .bool true]) ∧ Below wr.heap.size wr w') := HGX
                  have HXJ := hideIt hxj
                  clear hxj HGX
                  go_wp2_with (first | (go_at_call 18; refine HGX2.out.mono ?_; rintro e w2 ⟨rfl, hb2⟩; have HB2 := hideIt hb2; clear hb2))
                  obtain ⟨w3, hw3⟩ : ∃ w3, w2.alloc (.cells #[.string x.nm, .int .i64 x.md, .string x.ids] 36) = w3 := ⟨_, rfl⟩
                  have hb23 : Below w2.heap.size w2 w3 := by rw [← hw3]; exact (Below.refl _ _).alloc (Nat.le_refl _) _
                  have HB3 := hideIt (below2 HB2.out hb23)
                  obtain ⟨z0, z1, z2⟩ := three_cells (w := w3) (b := w2.heap.size) (x := x) (t := 36) (fr := (0, 0)) (by rw [← hw3]; exact alloc_at rfl)
                  obtain ⟨m0, m1, m2⟩ := HMC.out w3 (below2 HBA.out HB3.out)
                  obtain ⟨tb, to, rfl, t0, t1, t2⟩ := (HTR.out w3 (below2 HBA.out HB3.out)).cellsAt HXJ.out
                  rw [hw3]
                  clear hw3 hb23
                  go_quiet (fail)
                  go_wp2
                  go_roundw
                  case rel => exact ⟨j + 1, by omega, by go_num, below2 HBQ.out (below2 HB3.out (below_drewN _ _))⟩
                  case measure => simp [intOf]; omega
                · have a1 : ¬ (j : Int) < (n : Int) := by omega
                  have a2 : decide ((j : Int) < (n : Int)) = false := decide_eq_false a1
                  go_wp2
                  go_ret
                  exact ⟨rfl, below2 HB.out HBA.out⟩
            · have i1 : ¬ (k : Int) < (ln : Int) := by omega
              have i2 : decide ((k : Int) < (ln : Int)) = false := decide_eq_false i1
              have HGE := hideIt (fun v w h => fun x (hx : lookE L x.nm = some x) => get_any v L x.nm w h (by have := HN.out; omega) HUP.out)
              go_wp2_with (first | (go_at_call 12; refine (HAW.out _ (HM.out.below HB.out)).mono ?_; rintro e w1 ⟨rfl, hb1⟩; have HB1 := hideIt hb1; clear hb1))
              go_loopw [15] (fun t wr => ∃ j : Nat, j ≤ n ∧ t = .int .i64 j ∧ Below w1.heap.size w1 wr) (fun t _ => n - (intOf t).toNat)
              case atStart => exact ⟨0, by omega, rfl, Below.refl _ _⟩
              case round =>
                obtain ⟨j, hj, rfl, hbq⟩ := hrel
                have HBQ := hideIt hbq
                have HBA := hideIt (below2 HB1.out hbq)
                clear hbq
                by_cases hjn : j < n
                · have a1 : (j : Int) < (n : Int) := by omega
                  have a2 : decide ((j : Int) < (n : Int)) = true := decide_eq_true a1
                  obtain ⟨x, hxj⟩ : ∃ x, L[j]? = some x := ⟨L[j]'(by rw [HN.out]; exact hjn), by simp⟩
                  have HMC : Hid (∀ w', Below wo.heap.size wo w' → w'.cell? ⟨g, j * 3, none⟩ = some (.string x.nm) ∧ w'.cell? ⟨g, j * 3 + 1, none⟩ = some (.int .i64 x.md) ∧ w'.cell? ⟨g, j * 3 + 2, none⟩ = some (.string x.ids)) := hideIt (fun w' h => by
                    have h1 := (HOM.out.below h).own
                    rcases row_cells h1 with h2 | h2
                    · have := h2.2 j x hxj
                      rw [Nat.zero_add] at this
                      exact this
                    · rw [h2] at hxj; simp at hxj)
                  have HTR : Hid (∀ w', Below wo.heap.size wo w' → ERow w' (.slice ta n tc) L) := hideIt (fun w' h => by
                    exact (ERow.of_row HOT.out).below h)
                  obtain ⟨m0, m1, m2⟩ := HMC.out wr HBA.out
                  have HGX := hideIt (HGE.out _ wr (HTR.out wr HBA.out) x (look_at HUP.out j x hxj))
                  rw [look_at HUP.out j x hxj] at HGX
                  have HGX2 : Hid (Calls Try.prog 18 #[.slice ta n tc, .string x.nm] wr fun e w' => e = .returned (.tuple #[.agg #[.string x.nm, .int .i64 x.md, .string x.ids], .bool true]) ∧ Below wr.heap.size wr w') := HGX
                  have HXJ := hideIt hxj
                  clear hxj HGX
                  go_wp2_with (first | (go_at_call 18; refine HGX2.out.mono ?_; rintro e w2 ⟨rfl, hb2⟩; have HB2 := hideIt hb2; clear hb2))
                  obtain ⟨w3, hw3⟩ : ∃ w3, w2.alloc (.cells #[.string x.nm, .int .i64 x.md, .string x.ids] 36) = w3 := ⟨_, rfl⟩
                  have hb23 : Below w2.heap.size w2 w3 := by rw [← hw3]; exact (Below.refl _ _).alloc (Nat.le_refl _) _
                  have HB3 := hideIt (below2 HB2.out hb23)
                  obtain ⟨z0, z1, z2⟩ := three_cells (w := w3) (b := w2.heap.size) (x := x) (t := 36) (fr := (0, 0)) (by rw [← hw3]; exact alloc_at rfl)
                  obtain ⟨m0, m1, m2⟩ := HMC.out w3 (below2 HBA.out HB3.out)
                  obtain ⟨tb, to, rfl, t0, t1, t2⟩ := (HTR.out w3 (below2 HBA.out HB3.out)).cellsAt HXJ.out
                  rw [hw3]
                  clear hw3 hb23
                  go_quiet (fail)
                  go_wp2
                  go_roundw
                  case rel => exact ⟨j + 1, by omega, by go_num, below2 HBQ.out (below2 HB3.out (below_drewN _ _))⟩
                  case measure => simp [intOf]; omega
                · have a1 : ¬ (j : Int) < (n : Int) := by omega
                  have a2 : decide ((j : Int) < (n : Int)) = false := decide_eq_false a1
                  go_wp2
                  go_ret
                  exact ⟨rfl, below2 HB.out HBA.out⟩
end Go.Proofs.Ytfpnepjdcgghgaa
