/- Indexes: the document's order of spots: walked. -/
import Derived.Test.YtllpfpbpdgpnkaaDoorIxYc
import Derived.BigQuiet
namespace Go.Proofs.YtllpfpbpdgpnkaaDoor.Ix
open Cb Go.RowKit Go.Shelf
/-- A row of spots that is not nil. -/
def ORow (w : World) (v : Value) (l : List Sp) : Prop := ∃ ad c, v = .slice (some ad) l.length c ∧ l.length ≤ c ∧ c ≤ maxLen ∧ (0 < l.length → ∃ b o, ad = ⟨b, o, none⟩ ∧ SCells w b o l)
theorem ORow.below {w w' : World} {v : Value} {l : List Sp} (h : ORow w v l) (hb : Below w.heap.size w w') : ORow w' v l := by
  obtain ⟨ad, c, h1, h2, h3, h4⟩ := h
  refine ⟨ad, c, h1, h2, h3, fun h0 => ?_⟩
  obtain ⟨b, o, e, hc⟩ := h4 h0
  exact ⟨b, o, e, hc.below hb⟩
theorem ORow.srow {w : World} {v : Value} {l : List Sp} (h : ORow w v l) : SRow w v l := by
  obtain ⟨ad, c, h1, h2, h3, h4⟩ := h
  refine ⟨some ad, c, h1, h2, ⟨h3, fun h => by cases h⟩, fun h0 => ?_⟩
  obtain ⟨b, o, e, hc⟩ := h4 h0
  exact ⟨b, o, by rw [e], hc⟩
theorem ORow.of_row {w : World} {B : Nat} {t : TypeId} {v : Value} {l : List Sp} (h : w.ownsRow B t 2 v l.length (spsV l)) (h0 : 0 < l.length) : ORow w v l := by
  obtain ⟨a, c, e, h1, ⟨h2, _⟩, h3⟩ := SRow.of_row h
  obtain ⟨b, o, rfl, hc⟩ := h3 h0
  exact ⟨⟨b, o, none⟩, c, e, h1, h2, fun _ => ⟨b, o, rfl, hc⟩⟩
/-- A new row of one spot, of a type. -/
def Pd (t : TypeId) (x : Sp) (X : World) (g : Nat) : Prop := X.heap[g]? = some (.cells #[.string x.d, .int .i64 x.pl] t (0, 0))
theorem Pd.cell {t : TypeId} {x : Sp} {X : World} {g : Nat} (h : Pd t x X g) (j : Nat) (u : Value) (hj : [Value.string x.d, .int .i64 x.pl][j]? = some u) : X.cell? ((⟨g, 0, none⟩ : Addr).add j) = some u := by
  match j, hj with
  | 0, hj => exact cellAt h (by simpa using hj)
  | 1, hj => exact cellAt h (by simpa using hj)
  | j + 2, hj => simp at hj
theorem Pd.new (t : TypeId) (x : Sp) (X : World) : Pd t x (X.alloc (.cells #[.string x.d, .int .i64 x.pl] t)) X.heap.size := alloc_at rfl
theorem Pd.alloc {t : TypeId} {x : Sp} {X : World} {g : Nat} (h : Pd t x X g) (o : Obj) : Pd t x (X.alloc o) g := by
  unfold Pd at h ⊢
  rw [Below.heap_alloc _ _ _ (block_lt h)]
  exact h
theorem Pd.grown {t : TypeId} {x : Sp} {X Y : World} {g : Nat} {v : Value} (h : Pd t x X g) (hg : X.grownBy Y v.ownBlock) (hv : some g ≠ v.ownBlock) : Pd t x Y g := by
  unfold Pd at h ⊢
  rw [hg.block g (block_lt h) hv]
  exact h
/-- What lay in memory is as it was. -/
def Bs (w X : World) : Prop := Below w.heap.size w X
theorem Bs.alloc {w X : World} (h : Bs w X) (o : Obj) : Bs w (X.alloc o) := Below.alloc h (Below.size h) o
theorem Bs.grown {w X Y : World} {n : Nat} {t : TypeId} {v : Value} {xs : List Value} (h : Bs w X) (hv : X.ownsRow w.heap.size t 2 v n xs) (hg : X.grownBy Y v.ownBlock) : Bs w Y := Below.grown h hg (Below.size h) (row_ge hv)
/-- The spot that is laid, and what lay in memory. -/
def Ls (w : World) (b p : Nat) (x : Sp) (X : World) : Prop := X.cell? ⟨b, p, none⟩ = some (.string x.d) ∧ X.cell? ⟨b, p + 1, none⟩ = some (.int .i64 x.pl) ∧ Bs w X
theorem new_empty (B : Nat) (X : World) (t : TypeId) (h : B ≤ X.heap.size) : (X.alloc (.cells #[] t)).ownsRow B t 2 (.slice (some ⟨X.heap.size, 0, none⟩) 0 0) 0 (spsV []) :=
  ⟨rfl, .inr ⟨X.heap.size, 0, #[], rfl, h, alloc_at rfl, Nat.le_refl _, Nat.zero_le _, rfl, rfl⟩⟩
theorem bl_list (a b : ByteArray) : less a b = Op.bytesLess a.toList b.toList := rfl
/-- What is answered. -/
def SrTo (w : World) (o : Option (List Sp)) (e : Ending) (w' : World) : Prop := Below w.heap.size w w' ∧ match o with
  | none => e = .returned (.tuple #[.slice none 0 0, .int .i64 1])
  | some m => ∃ v, e = .returned (.tuple #[v, .int .i64 0]) ∧ SRow w' v m
theorem SrTo.bad {w w' : World} {R : Option (List Sp)} (h : R = none) (hb : Below w.heap.size w w') : SrTo w R (.returned (.tuple #[.slice none 0 0, .int .i64 1])) w' := by
  subst h
  exact ⟨hb, rfl⟩
theorem SrTo.good {w w' : World} {R : Option (List Sp)} {m : List Sp} {v : Value} (h : R = some m) (hv : SRow w' v m) (hb : Below w.heap.size w w') : SrTo w R (.returned (.tuple #[v, .int .i64 0])) w' := by
  subst h
  exact ⟨hb, v, rfl, hv⟩
theorem pos_at {acc : List Sp} (hu : Up acc) {t : ByteArray} {a : Nat} (ha : a ≤ acc.length) (h1 : ∀ j y, a ≤ j → acc[j]? = some y → less t y.d = true) (h2 : ∀ y, 0 < a → acc[a - 1]? = some y → less y.d t = true) : pos acc t = a ∧ found acc t = false := by
  have hp : pos acc t = a := by
    refine countP_at _ acc a ha (fun j y hj hy => ?_) (fun j y hj hy => less_asymm (h1 j y hj hy))
    obtain ⟨z, hz⟩ : ∃ z, acc[a - 1]? = some z := ⟨acc[a - 1]'(by omega), by simp⟩
    have hzt := h2 z (by omega) hz
    rcases (by omega : j < a - 1 ∨ j = a - 1) with h | h
    · exact less_trans (hu.at h hy hz) hzt
    · subst h
      rw [hz] at hy
      cases hy
      exact hzt
  refine ⟨hp, ?_⟩
  rw [found, hp]
  split
  · rename_i y hy
    have := h1 a y (Nat.le_refl _) hy
    exact decide_eq_false (fun e => by rw [e, less_irrefl] at this; cases this)
  · rfl
set_option maxHeartbeats 1600000 in
set_option maxRecDepth 100000 in
theorem refsorted_any (pack : ByteArray) (v : Value) (l : List Sp) (w : World) (h : SRow w v l) (hp : pack.size = 32) (hn : l.length ≤ 2048) :
    Calls Tryd.prog 9 #[.string pack, v] w fun e w' => SrTo w (srtF [] l) e w' := by
  obtain ⟨i0, hi0, hz0, hz1, hz2⟩ := info_parts infoJ
  obtain ⟨R, hR⟩ : ∃ R, srtF [] l = R := ⟨_, rfl⟩
  rw [hR]
  have HSR := hideIt hR
  have HR := hideIt (fun (w' : World) (hb : Below w.heap.size w w') => h.below hb)
  obtain ⟨a, c, rfl, hlc, ⟨hcm, hnn⟩, hrow⟩ := h
  have ps : (pack.size : Int) = 32 := by omega
  have ps2 : ((pack.size : Int) != 32) = false := by simpa using ps
  have ps3 : ((pack.size : Int) == 32) = true := by simpa using ps
  obtain ⟨n, hnl⟩ : ∃ n, l.length = n := ⟨_, rfl⟩
  have HN := hideIt hnl
  rw [hnl] at hlc hn ⊢
  have n1 : ¬ (2048 : Int) < (n : Int) := by omega
  have n2 : decide ((2048 : Int) < (n : Int)) = false := decide_eq_false n1
  have HO0 : Hid (ORow (w.alloc (.cells #[] 37)) (.slice (some ⟨w.heap.size, 0, none⟩) 0 0) []) := hideIt ⟨_, 0, rfl, Nat.le_refl _, by unfold maxLen; omega, fun h => by simp at h⟩
  have HB0 : Hid (Below w.heap.size w (w.alloc (.cells #[] 37))) := hideIt ((Below.refl _ _).alloc (Nat.le_refl _) _)
  clear hnl hrow hnn hcm hR
  go_enter Tryd.func9, Tryd.ntmps9
  go_wp2
  go_loopw [6, 7, 8] (fun t6 t7 _ wr => ∃ (i : Nat) (acc : List Sp), i ≤ n ∧ t7 = .int .i64 (i : Int) ∧ acc.length ≤ i ∧ Up acc ∧ ORow wr t6 acc ∧ srtF acc (l.drop i) = R ∧ Below w.heap.size w wr) (fun _ t7 _ _ => n - (intOf t7).toNat)
  case atStart => exact ⟨0, [], by omega, rfl, by simp, List.Pairwise.nil, HO0.out, by simpa using HSR.out, HB0.out⟩
  case round =>
    obtain ⟨i, acc, hi, rfl, hal, hup, hor, hsr, hb⟩ := hrel
    have HB := hideIt hb
    by_cases hlt : i < n
    · have i1 : (i : Int) < (n : Int) := by omega
      have i2 : decide ((i : Int) < (n : Int)) = true := decide_eq_true i1
      obtain ⟨x, hxi⟩ : ∃ x, l[i]? = some x := ⟨l[i]'(by rw [HN.out]; exact hlt), by simp⟩
      obtain ⟨av, cv, hav, hle, hcm2, hrw⟩ := HR.out wr hb
      cases hav
      obtain ⟨bb, o, rfl, hcells⟩ := hrw (by rw [HN.out]; omega)
      obtain ⟨c0, c1⟩ := hcells.2 i x hxi
      have hdr : l.drop i = x :: l.drop (i + 1) := by
        obtain ⟨hi', rfl⟩ := List.getElem?_eq_some_iff.1 hxi
        exact List.drop_eq_getElem_cons hi'
      rw [hdr, srtF] at hsr
      by_cases hw : wrong x = true
      · rw [if_pos hw] at hsr
        have HE : Hid (R = none) := hideIt hsr.symm
        have hcw : ¬ x.d.size = 32 ∨ (x.d.size = 32 ∧ x.pl < 0) ∨ (x.d.size = 32 ∧ ¬ x.pl < 0 ∧ (4194304 : Int) < x.pl) := by
          unfold wrong at hw
          simp at hw
          omega
        clear hw hsr hdr hcells hrw hcm2 hle hxi hb hup hor
        rcases hcw with h1 | ⟨h1, h2⟩ | ⟨h1, h2, h3⟩
        · have e1 : ¬ (x.d.size : Int) = 32 := by omega
          have e2 : ((x.d.size : Int) != 32) = true := by simpa using e1
          have e3 : ((x.d.size : Int) == 32) = false := by simpa using e1
          clear h1
          go_wp2
          go_ret2
          exact SrTo.bad HE.out HB.out
        · have e1 : (x.d.size : Int) = 32 := by omega
          have e2 : ((x.d.size : Int) != 32) = false := by simpa using e1
          have e3 : ((x.d.size : Int) == 32) = true := by simpa using e1
          have e5 : decide (x.pl < 0) = true := decide_eq_true h2
          clear h1
          go_wp2
          go_ret2
          exact SrTo.bad HE.out HB.out
        · have e1 : (x.d.size : Int) = 32 := by omega
          have e2 : ((x.d.size : Int) != 32) = false := by simpa using e1
          have e3 : ((x.d.size : Int) == 32) = true := by simpa using e1
          have e5 : decide (x.pl < 0) = false := decide_eq_false h2
          have e7 : decide ((4194304 : Int) < x.pl) = true := decide_eq_true h3
          clear h1
          go_wp2
          go_ret2
          exact SrTo.bad HE.out HB.out
      · rw [if_neg hw] at hsr
        obtain ⟨s1, s2, s3⟩ := wrong_size (x := x) (by simpa using hw)
        have e1 : (x.d.size : Int) = 32 := by omega
        have e2 : ((x.d.size : Int) != 32) = false := by simpa using e1
        have e3 : ((x.d.size : Int) == 32) = true := by simpa using e1
        have e4 : ¬ x.pl < 0 := by omega
        have e5 : decide (x.pl < 0) = false := decide_eq_false e4
        have e6 : ¬ (4194304 : Int) < x.pl := by omega
        have e7 : decide ((4194304 : Int) < x.pl) = false := decide_eq_false e6
        obtain ⟨ad, ca, rfl, hac, hcam, hacc⟩ := hor
        have HAC := hideIt hacc
        have HSR2 := hideIt hsr
        have HUP := hideIt hup
        obtain ⟨q, hq⟩ : ∃ q, acc.length = q := ⟨_, rfl⟩
        have HQ := hideIt hq
        rw [hq] at hac hal ⊢
        have HCE := hideIt hcells
        have HXI := hideIt hxi
        clear hw hacc hsr hup hq hcells hrw hcm2 hle hdr hb hxi
        go_wp2
        clear c0 c1
        generalize wr = W0 at *
        go_loopw [8] (fun t8 wq => ∃ k : Nat, k ≤ q ∧ t8 = .int .i64 (k : Int) ∧ (∀ j y, k ≤ j → acc[j]? = some y → less x.d y.d = true) ∧ Bs W0 wq) (fun t8 _ => (intOf t8).toNat)
        case atStart => exact ⟨q, Nat.le_refl _, rfl, fun j y hj hy => by have := (List.getElem?_eq_some_iff.1 hy).1; rw [HQ.out] at this; omega, Below.refl _ _⟩
        case round =>
          obtain ⟨k, hkq, rfl, hgr, hbs⟩ := hrel
          have HGR := hideIt hgr
          have HBS := hideIt hbs
          obtain ⟨c0, c1⟩ := (HCE.out.below hbs).2 i x HXI.out
          clear hgr hbs
          have HC1 : Hid (∀ X, Bs W0 X → ∀ j u, (spsV (acc.take k))[j]? = some u → X.cell? (ad.add j) = some u) := hideIt (fun X hX j u hj => by
            have hl : 0 < (acc.take k).length := by
              have := (List.getElem?_eq_some_iff.1 hj).1
              rw [spsV_len] at this
              omega
            have hl2 : 0 < acc.length := by simp at hl; omega
            obtain ⟨ab, ao, rfl, hac2⟩ := HAC.out hl2
            have h3 := (hac2.below hX).sub 0 k
            rw [List.drop_zero, Nat.zero_mul, Nat.add_zero] at h3
            exact h3.flat j u hj)
          have HC3 : Hid (∀ X, Bs W0 X → ∀ j u, (spsV (acc.drop k))[j]? = some u → X.cell? ((ad.add (k * 2)).add j) = some u) := hideIt (fun X hX j u hj => by
            have hl : 0 < (acc.drop k).length := by
              have := (List.getElem?_eq_some_iff.1 hj).1
              rw [spsV_len] at this
              omega
            have hl2 : 0 < acc.length := by simp at hl; omega
            obtain ⟨ab, ao, rfl, hac2⟩ := HAC.out hl2
            have h3 := (hac2.below hX).sub k (acc.length - k)
            rw [List.take_of_length_le (by simp)] at h3
            rw [Addr.add_lit]
            exact h3.flat j u hj)
          have HC4 : Hid (k = q → ∀ (X : World) (a : Addr) j u, (spsV (acc.drop k))[j]? = some u → X.cell? (a.add j) = some u) := hideIt (fun hkq2 X a j u hj => by
            rw [List.drop_of_length_le (by rw [HQ.out]; omega)] at hj
            simp [spsV] at hj)
          have HL1 : Hid ((spsV (acc.take k)).length = k * 2) := hideIt (by rw [spsV_len, List.length_take, HQ.out]; omega)
          have HL3 : Hid ((spsV (acc.drop k)).length = (q - k) * 2) := hideIt (by rw [spsV_len, List.length_drop, HQ.out])
          have HBY : Hid (∀ z, Bs W0 (wr.drewN z)) := hideIt (fun z => below2 HBS.out (below_drewN _ _))
          have hkk : (k : Int) ≤ (q : Int) := by omega
          have hqc : (q : Int) ≤ (ca : Int) := by omega
          have hkc : (k : Int) ≤ (ca : Int) := by omega
          have hkc2 : k ≤ ca := by omega
          have hqn : q ≤ 2048 := by omega
          by_cases hst : 0 < k ∧ ∀ y, acc[k - 1]? = some y → less y.d x.d = false
          · obtain ⟨hk0, hge⟩ := hst
            have k1 : (0 : Int) < (k : Int) := by omega
            have k2 : decide ((0 : Int) < (k : Int)) = true := decide_eq_true k1
            have k3 : decide (0 < k) = true := decide_eq_true hk0
            obtain ⟨p, hpk⟩ : ∃ p, k = p + 1 := ⟨k - 1, by omega⟩
            have p1 : (k : Int) - 1 = (p : Int) := by omega
            have p2 : (p : Int) < (q : Int) := by omega
            obtain ⟨y, hyp⟩ : ∃ y, acc[p]? = some y := ⟨acc[p]'(by rw [HQ.out]; omega), by simp⟩
            have hge2 := hge y (by rw [show k - 1 = p by omega]; exact hyp)
            have hbl : Op.bytesLess y.d.toList x.d.toList = false := hge2
            obtain ⟨ab, ao, rfl, hac2⟩ := HAC.out (by rw [HQ.out]; omega)
            obtain ⟨d0, d1⟩ := (hac2.below HBS.out).2 p y hyp
            have HYP := hideIt hyp
            have HPK := hideIt hpk
            have HGE := hideIt hge2
            clear hac2 hyp hge hpk hge2 HC1 HC3 HC4 HL1 HL3
            by_cases heq : y.d = x.d
            · have HRN : Hid (R = none) := hideIt (by
                rw [← HSR2.out, (found_of HUP.out (List.mem_of_getElem? HYP.out) heq).1, if_pos rfl])
              have HEQ := hideIt heq
              clear heq
              go_wp2
              go_quiet (fail)
              go_wp2
              have q1 : (y.d.toList == x.d.toList) = true := by rw [HEQ.out]; simp
              have q2 : y.d.toList = x.d.toList := by rw [HEQ.out]
              clear hbl
              go_quiet (fail)
              go_wp2
              go_ret2
              first | exact SrTo.bad HRN.out (below2 HB.out (HBY.out _)) | exact SrTo.bad HRN.out (below2 HB.out (below2 (HBY.out _) (below_drewN _ _)))
            · have HNE := hideIt heq
              clear heq
              go_wp2
              go_quiet (fail)
              go_wp2
              obtain ⟨q1, q2⟩ := tl_ne HNE.out
              clear hbl
              go_quiet (fail)
              go_wp2
              go_roundw
              case rel =>
                refine ⟨p, by omega, by go_num, fun j z hj hz => ?_, by first | exact HBY.out _ | exact below2 (HBY.out _) (below_drewN _ _)⟩
                rcases (by have := HPK.out; omega : k ≤ j ∨ j = p) with h | h
                · exact HGR.out j z h hz
                · subst h
                  rw [HYP.out] at hz
                  cases hz
                  exact less_of HGE.out (fun e => HNE.out e.symm)
              case measure => simp [intOf]; have := HPK.out; omega
          · have HPO := hideIt (pos_at HUP.out (t := x.d) (a := k) (by rw [HQ.out]; exact hkq) HGR.out (fun y h0 hy => by
              cases hh : less y.d x.d with
              | true => rfl
              | false =>
                exfalso
                apply hst
                refine ⟨h0, fun y' hy' => ?_⟩
                rw [hy] at hy'
                cases hy'
                exact hh))
            have HINS : Hid (insS acc x = acc.take k ++ [x] ++ acc.drop k) := hideIt (by rw [insS, HPO.out.1])
            have HSR3 : Hid (srtF (insS acc x) (l.drop (i + 1)) = R) := hideIt (by rw [← HSR2.out, HPO.out.2, if_neg (by simp)])
            have HUP3 := hideIt (ins_up HUP.out HPO.out.2)
            have HFIN : Hid (∀ X v (B : Nat), X.ownsRow B 37 2 v (0 + k + 1 + (q - k)) (spsV [] ++ spsV (acc.take k) ++ [.string x.d, .int .i64 x.pl] ++ spsV (acc.drop k)) → ORow X v (insS acc x) ∧ (insS acc x).length = q + 1) := hideIt (fun X v B ho => by
              have hl : (insS acc x).length = q + 1 := by rw [HINS.out]; simp [HQ.out]; omega
              refine ⟨ORow.of_row (B := B) (t := 37) ?_ (by omega), hl⟩
              rw [hl, HINS.out, spsV_append, spsV_append]
              rw [show 0 + k + 1 + (q - k) = q + 1 by omega] at ho
              exact ho)
            have hcase : (k = 0) ∨ (0 < k ∧ ∃ p y, k = p + 1 ∧ acc[p]? = some y ∧ less y.d x.d = true) := by
              by_cases h0 : k = 0
              · exact .inl h0
              · refine .inr ⟨by omega, k - 1, acc[k - 1]'(by rw [HQ.out]; omega), by omega, by simp, ?_⟩
                cases hh : less (acc[k - 1]'(by rw [HQ.out]; omega)).d x.d with
                | true => rfl
                | false =>
                  exfalso
                  apply hst
                  refine ⟨by omega, fun y' hy' => ?_⟩
                  rw [List.getElem?_eq_getElem (by rw [HQ.out]; omega)] at hy'
                  cases hy'
                  exact hh
            clear hst
            have hck : (ca = k ∧ k = q) ∨ ¬ ca = k := by omega
            rcases hcase with hk0 | ⟨hk0, p, y, hpk, hyp, hyl⟩
            · have k1 : ¬ (0 : Int) < (k : Int) := by omega
              have k2 : decide ((0 : Int) < (k : Int)) = false := decide_eq_false k1
              have k3 : decide (0 < k) = false := decide_eq_false (by omega)
              have k4 : ¬ 0 < k := by omega
              have HK0 := hideIt hk0
              clear hk0
              go_wp2
              go_quiet (fail)
              go_wp2
              clear k1 k2 k3 k4
              have HY0 := hideIt (HBY.out nq)
              obtain ⟨c0, c1⟩ := (HCE.out.below HY0.out).2 i x HXI.out
              generalize wr.drewN nq = Y at *
              have HBY2 := hideIt (below2 HB.out HY0.out)
              have HLS : Hid (∀ X, Bs Y X → X.cell? ⟨bb, o + i * 2, none⟩ = some (.string x.d) ∧ X.cell? ⟨bb, o + i * 2 + 1, none⟩ = some (.int .i64 x.pl) ∧ Bs Y X) := hideIt (fun X hX => by
                obtain ⟨z0, z1⟩ := (HCE.out.below (below2 HY0.out hX)).2 i x HXI.out
                exact ⟨z0, z1, hX⟩)
              have HC1 := hideIt (fun X (hX : Bs Y X) => HC1.out X (below2 HY0.out hX))
              have HC3 := hideIt (fun X (hX : Bs Y X) => HC3.out X (below2 HY0.out hX))
              have BS0 : Hid (Bs Y Y.drew) := hideIt (Below.refl _ Y).drew
              have BS1 : Hid (Bs Y (Y.drew.alloc (.cells #[] 37))) := hideIt (BS0.out.alloc _)
              have BS2 : Hid (Bs Y ((Y.drew.alloc (.cells #[] 37)).alloc (.cells #[.string x.d, .int .i64 x.pl] 37))) := hideIt (BS1.out.alloc _)
              have BS3 : Hid (Bs Y ((Y.drew.alloc (.cells #[.string x.d, .int .i64 x.pl] 37)).alloc (.cells #[] 37))) := hideIt ((BS0.out.alloc _).alloc _)
              have OS1 : Hid ((Y.drew.alloc (.cells #[] 37)).ownsRow Y.heap.size 37 2 (.slice (some ⟨Y.heap.size, 0, none⟩) 0 0) 0 (spsV [])) := hideIt (new_empty _ Y.drew _ (Nat.le_refl _))
              have OS2 : Hid (((Y.drew.alloc (.cells #[] 37)).alloc (.cells #[.string x.d, .int .i64 x.pl] 37)).ownsRow Y.heap.size 37 2 (.slice (some ⟨Y.heap.size, 0, none⟩) 0 0) 0 (spsV [])) := hideIt (OS1.out.alloc _)
              have OS3 : Hid (((Y.drew.alloc (.cells #[.string x.d, .int .i64 x.pl] 37)).alloc (.cells #[] 37)).ownsRow Y.heap.size 37 2 (.slice (some ⟨Y.heap.size + 1, 0, none⟩) 0 0) 0 (spsV [])) := hideIt (by
                have := new_empty Y.heap.size (Y.drew.alloc (.cells #[.string x.d, .int .i64 x.pl] 37)) 37 (by simp)
                simpa using this)
              have PS2 : Hid (Pd 37 x ((Y.drew.alloc (.cells #[] 37)).alloc (.cells #[.string x.d, .int .i64 x.pl] 37)) (Y.heap.size + 1)) := hideIt (by simpa using Pd.new 37 x (Y.drew.alloc (.cells #[] 37)))
              have PS3 : Hid (Pd 37 x ((Y.drew.alloc (.cells #[.string x.d, .int .i64 x.pl] 37)).alloc (.cells #[] 37)) Y.heap.size) := hideIt ((Pd.new 37 x Y.drew).alloc _)
              clear HBY HGR HBS
              rcases hck with ⟨hck, hkq2⟩ | hck
              · have HC3 := hideIt (fun (X : World) (_ : Bs Y X) => HC4.out hkq2 X ad)
                have hck' := hck.symm
                subst hck'
                subst hkq2
                have HL3 : Hid ((spsV (acc.drop k)).length = 0 * 2) := hideIt (by rw [HL3.out]; omega)
                have HFIN : Hid (∀ X v (B : Nat), X.ownsRow B 37 2 v (0 + k + 1 + 0) (spsV [] ++ spsV (acc.take k) ++ [.string x.d, .int .i64 x.pl] ++ spsV (acc.drop k)) → ORow X v (insS acc x) ∧ (insS acc x).length = k + 1) := hideIt (fun X v B ho => HFIN.out X v B (by rw [show k - k = 0 by omega]; exact ho))
                go_region_held3 (fun X => X.cell? ⟨bb, o + i * 2, none⟩ = some (.string x.d) ∧ X.cell? ⟨bb, o + i * 2 + 1, none⟩ = some (.int .i64 x.pl) ∧ Bs Y X) (first | exact HLS.out _ BS0.out | assumption | exact HLS.out _ B3.out | exact HLS.out _ B2.out | exact HLS.out _ B1.out | exact HLS.out _ (Bs.alloc (‹_ ∧ _ ∧ Bs _ _›).2.2 _) | go_keep) (first
              | (refine step_append_own (by rfl) (.tmp 87) (.tmp 90) 23 (by rfl) Y.heap.size 37 i0 (.agg #[.string ⟨#[]⟩, .int .i64 0]) 2 24 Tryd.underlying23 hi0 hz0 hz1 hz2 rfl (by decide) _ _ _ (by rfl) O2.out _ _ _ (spsV (acc.drop k)) (by rfl) HL3.out (HC3.out _ B2.out) (spsV_one _) (by unfold maxLen; omega) (by omega) (Below.size B2.out) ?_; intro v3 w3 ho3 hg3; have O3 := hideIt ho3; have B3 := hideIt (Bs.grown B2.out O2.out hg3); clear ho3 hg3)
              | (refine step_append_own (by rfl) (.tmp 81) (.tmp 86) 23 (by rfl) Y.heap.size 37 i0 (.agg #[.string ⟨#[]⟩, .int .i64 0]) 2 24 Tryd.underlying23 hi0 hz0 hz1 hz2 rfl (by decide) _ _ _ (by rfl) O1.out _ _ _ [.string x.d, .int .i64 x.pl] (by rfl) rfl (PB.out).cell (fun u hu => by simp at hu; rcases hu with rfl | rfl <;> rfl) (by unfold maxLen; omega) (by omega) (Below.size B1.out) ?_; intro v2 w2 ho2 hg2; have O2 := hideIt ho2; have B2 := hideIt (Bs.grown B1.out (O1.out) hg2); clear ho2 hg2)
              | (refine step_append_own (by rfl) (.tmp 81) (.tmp 86) 23 (by rfl) Y.heap.size 37 i0 (.agg #[.string ⟨#[]⟩, .int .i64 0]) 2 24 Tryd.underlying23 hi0 hz0 hz1 hz2 rfl (by decide) _ _ _ (by rfl) O1.out _ _ _ [.string x.d, .int .i64 x.pl] (by rfl) rfl (PC.out).cell (fun u hu => by simp at hu; rcases hu with rfl | rfl <;> rfl) (by unfold maxLen; omega) (by omega) (Below.size B1.out) ?_; intro v2 w2 ho2 hg2; have O2 := hideIt ho2; have B2 := hideIt (Bs.grown B1.out (O1.out) hg2); clear ho2 hg2)
              | (refine step_append_own (by rfl) (.tmp 81) (.tmp 86) 23 (by rfl) Y.heap.size 37 i0 (.agg #[.string ⟨#[]⟩, .int .i64 0]) 2 24 Tryd.underlying23 hi0 hz0 hz1 hz2 rfl (by decide) _ _ _ (by rfl) (O1.out.alloc _) _ _ _ [.string x.d, .int .i64 x.pl] (by rfl) rfl (Pd.new 37 x w1).cell (fun u hu => by simp at hu; rcases hu with rfl | rfl <;> rfl) (by unfold maxLen; omega) (by omega) (Below.size (Bs.alloc B1.out _)) ?_; intro v2 w2 ho2 hg2; have O2 := hideIt ho2; have B2 := hideIt (Bs.grown (Bs.alloc B1.out _) ((O1.out.alloc _)) hg2); clear ho2 hg2)
              | (refine step_append_own (by rfl) (.tmp 77) (.tmp 80) 23 (by rfl) Y.heap.size 37 i0 (.agg #[.string ⟨#[]⟩, .int .i64 0]) 2 24 Tryd.underlying23 hi0 hz0 hz1 hz2 rfl (by decide) _ _ _ (by rfl) OS1.out _ _ _ (spsV (acc.take k)) (by rfl) HL1.out (HC1.out _ BS1.out) (spsV_one _) (by unfold maxLen; omega) (by omega) (Below.size BS1.out) ?_; intro v1 w1 ho1 hg1; have O1 := hideIt ho1; have B1 := hideIt (Bs.grown BS1.out OS1.out hg1); clear ho1 hg1)
              | (refine step_append_own (by rfl) (.tmp 77) (.tmp 80) 23 (by rfl) Y.heap.size 37 i0 (.agg #[.string ⟨#[]⟩, .int .i64 0]) 2 24 Tryd.underlying23 hi0 hz0 hz1 hz2 rfl (by decide) _ _ _ (by rfl) OS2.out _ _ _ (spsV (acc.take k)) (by rfl) HL1.out (HC1.out _ BS2.out) (spsV_one _) (by unfold maxLen; omega) (by omega) (Below.size BS2.out) ?_; intro v1 w1 ho1 hg1; have O1 := hideIt ho1; have B1 := hideIt (Bs.grown BS2.out OS2.out hg1); have PB := hideIt (Pd.grown PS2.out hg1 (by simp [Value.ownBlock])); clear ho1 hg1)
              | (refine step_append_own (by rfl) (.tmp 77) (.tmp 80) 23 (by rfl) Y.heap.size 37 i0 (.agg #[.string ⟨#[]⟩, .int .i64 0]) 2 24 Tryd.underlying23 hi0 hz0 hz1 hz2 rfl (by decide) _ _ _ (by rfl) OS3.out _ _ _ (spsV (acc.take k)) (by rfl) HL1.out (HC1.out _ BS3.out) (spsV_one _) (by unfold maxLen; omega) (by omega) (Below.size BS3.out) ?_; intro v1 w1 ho1 hg1; have O1 := hideIt ho1; have B1 := hideIt (Bs.grown BS3.out OS3.out hg1); have PC := hideIt (Pd.grown PS3.out hg1 (by simp [Value.ownBlock])); clear ho1 hg1))
                all_goals go_wp2
                all_goals go_roundw
                case rel => exact ⟨i + 1, insS acc x, by omega, by go_num, by rw [(HFIN.out _ _ _ O3.out).2]; omega, HUP3.out, (HFIN.out _ _ _ O3.out).1, HSR3.out, below2 HBY2.out B3.out⟩
                case measure => simp [intOf]; omega
                case rel => exact ⟨i + 1, insS acc x, by omega, by go_num, by rw [(HFIN.out _ _ _ O3.out).2]; omega, HUP3.out, (HFIN.out _ _ _ O3.out).1, HSR3.out, below2 HBY2.out B3.out⟩
                case measure => simp [intOf]; omega
                case rel => exact ⟨i + 1, insS acc x, by omega, by go_num, by rw [(HFIN.out _ _ _ O3.out).2]; omega, HUP3.out, (HFIN.out _ _ _ O3.out).1, HSR3.out, below2 HBY2.out B3.out⟩
                case measure => simp [intOf]; omega
              · go_region_held3 (fun X => X.cell? ⟨bb, o + i * 2, none⟩ = some (.string x.d) ∧ X.cell? ⟨bb, o + i * 2 + 1, none⟩ = some (.int .i64 x.pl) ∧ Bs Y X) (first | exact HLS.out _ BS0.out | assumption | exact HLS.out _ B3.out | exact HLS.out _ B2.out | exact HLS.out _ B1.out | exact HLS.out _ (Bs.alloc (‹_ ∧ _ ∧ Bs _ _›).2.2 _) | go_keep) (first
              | (refine step_append_own (by rfl) (.tmp 87) (.tmp 90) 23 (by rfl) Y.heap.size 37 i0 (.agg #[.string ⟨#[]⟩, .int .i64 0]) 2 24 Tryd.underlying23 hi0 hz0 hz1 hz2 rfl (by decide) _ _ _ (by rfl) O2.out _ _ _ (spsV (acc.drop k)) (by rfl) HL3.out (HC3.out _ B2.out) (spsV_one _) (by unfold maxLen; omega) (by omega) (Below.size B2.out) ?_; intro v3 w3 ho3 hg3; have O3 := hideIt ho3; have B3 := hideIt (Bs.grown B2.out O2.out hg3); clear ho3 hg3)
              | (refine step_append_own (by rfl) (.tmp 81) (.tmp 86) 23 (by rfl) Y.heap.size 37 i0 (.agg #[.string ⟨#[]⟩, .int .i64 0]) 2 24 Tryd.underlying23 hi0 hz0 hz1 hz2 rfl (by decide) _ _ _ (by rfl) O1.out _ _ _ [.string x.d, .int .i64 x.pl] (by rfl) rfl (PB.out).cell (fun u hu => by simp at hu; rcases hu with rfl | rfl <;> rfl) (by unfold maxLen; omega) (by omega) (Below.size B1.out) ?_; intro v2 w2 ho2 hg2; have O2 := hideIt ho2; have B2 := hideIt (Bs.grown B1.out (O1.out) hg2); clear ho2 hg2)
              | (refine step_append_own (by rfl) (.tmp 81) (.tmp 86) 23 (by rfl) Y.heap.size 37 i0 (.agg #[.string ⟨#[]⟩, .int .i64 0]) 2 24 Tryd.underlying23 hi0 hz0 hz1 hz2 rfl (by decide) _ _ _ (by rfl) O1.out _ _ _ [.string x.d, .int .i64 x.pl] (by rfl) rfl (PC.out).cell (fun u hu => by simp at hu; rcases hu with rfl | rfl <;> rfl) (by unfold maxLen; omega) (by omega) (Below.size B1.out) ?_; intro v2 w2 ho2 hg2; have O2 := hideIt ho2; have B2 := hideIt (Bs.grown B1.out (O1.out) hg2); clear ho2 hg2)
              | (refine step_append_own (by rfl) (.tmp 81) (.tmp 86) 23 (by rfl) Y.heap.size 37 i0 (.agg #[.string ⟨#[]⟩, .int .i64 0]) 2 24 Tryd.underlying23 hi0 hz0 hz1 hz2 rfl (by decide) _ _ _ (by rfl) (O1.out.alloc _) _ _ _ [.string x.d, .int .i64 x.pl] (by rfl) rfl (Pd.new 37 x w1).cell (fun u hu => by simp at hu; rcases hu with rfl | rfl <;> rfl) (by unfold maxLen; omega) (by omega) (Below.size (Bs.alloc B1.out _)) ?_; intro v2 w2 ho2 hg2; have O2 := hideIt ho2; have B2 := hideIt (Bs.grown (Bs.alloc B1.out _) ((O1.out.alloc _)) hg2); clear ho2 hg2)
              | (refine step_append_own (by rfl) (.tmp 77) (.tmp 80) 23 (by rfl) Y.heap.size 37 i0 (.agg #[.string ⟨#[]⟩, .int .i64 0]) 2 24 Tryd.underlying23 hi0 hz0 hz1 hz2 rfl (by decide) _ _ _ (by rfl) OS1.out _ _ _ (spsV (acc.take k)) (by rfl) HL1.out (HC1.out _ BS1.out) (spsV_one _) (by unfold maxLen; omega) (by omega) (Below.size BS1.out) ?_; intro v1 w1 ho1 hg1; have O1 := hideIt ho1; have B1 := hideIt (Bs.grown BS1.out OS1.out hg1); clear ho1 hg1)
              | (refine step_append_own (by rfl) (.tmp 77) (.tmp 80) 23 (by rfl) Y.heap.size 37 i0 (.agg #[.string ⟨#[]⟩, .int .i64 0]) 2 24 Tryd.underlying23 hi0 hz0 hz1 hz2 rfl (by decide) _ _ _ (by rfl) OS2.out _ _ _ (spsV (acc.take k)) (by rfl) HL1.out (HC1.out _ BS2.out) (spsV_one _) (by unfold maxLen; omega) (by omega) (Below.size BS2.out) ?_; intro v1 w1 ho1 hg1; have O1 := hideIt ho1; have B1 := hideIt (Bs.grown BS2.out OS2.out hg1); have PB := hideIt (Pd.grown PS2.out hg1 (by simp [Value.ownBlock])); clear ho1 hg1)
              | (refine step_append_own (by rfl) (.tmp 77) (.tmp 80) 23 (by rfl) Y.heap.size 37 i0 (.agg #[.string ⟨#[]⟩, .int .i64 0]) 2 24 Tryd.underlying23 hi0 hz0 hz1 hz2 rfl (by decide) _ _ _ (by rfl) OS3.out _ _ _ (spsV (acc.take k)) (by rfl) HL1.out (HC1.out _ BS3.out) (spsV_one _) (by unfold maxLen; omega) (by omega) (Below.size BS3.out) ?_; intro v1 w1 ho1 hg1; have O1 := hideIt ho1; have B1 := hideIt (Bs.grown BS3.out OS3.out hg1); have PC := hideIt (Pd.grown PS3.out hg1 (by simp [Value.ownBlock])); clear ho1 hg1))
                all_goals go_wp2
                all_goals go_roundw
                case rel => exact ⟨i + 1, insS acc x, by omega, by go_num, by rw [(HFIN.out _ _ _ O3.out).2]; omega, HUP3.out, (HFIN.out _ _ _ O3.out).1, HSR3.out, below2 HBY2.out B3.out⟩
                case measure => simp [intOf]; omega
                case rel => exact ⟨i + 1, insS acc x, by omega, by go_num, by rw [(HFIN.out _ _ _ O3.out).2]; omega, HUP3.out, (HFIN.out _ _ _ O3.out).1, HSR3.out, below2 HBY2.out B3.out⟩
                case measure => simp [intOf]; omega
                case rel => exact ⟨i + 1, insS acc x, by omega, by go_num, by rw [(HFIN.out _ _ _ O3.out).2]; omega, HUP3.out, (HFIN.out _ _ _ O3.out).1, HSR3.out, below2 HBY2.out B3.out⟩
                case measure => simp [intOf]; omega
            · have k1 : (0 : Int) < (k : Int) := by omega
              have k2 : decide ((0 : Int) < (k : Int)) = true := decide_eq_true k1
              have k3 : decide (0 < k) = true := decide_eq_true hk0
              have p1 : (k : Int) - 1 = (p : Int) := by omega
              have p2 : (p : Int) < (q : Int) := by omega
              have hbl : Op.bytesLess y.d.toList x.d.toList = true := hyl
              obtain ⟨ab, ao, rfl, hac2⟩ := HAC.out (by rw [HQ.out]; omega)
              obtain ⟨d0, d1⟩ := (hac2.below HBS.out).2 p y hyp
              rw [Addr.add_lit] at HC3
              clear hac2 hyp hyl hpk
              go_wp2
              go_quiet (fail)
              go_wp2
              clear d0 d1 hbl k1 k2 k3 p1 p2 hk0
              have HY0 := hideIt (HBY.out nq)
              obtain ⟨c0, c1⟩ := (HCE.out.below HY0.out).2 i x HXI.out
              generalize wr.drewN nq = Y at *
              have HBY2 := hideIt (below2 HB.out HY0.out)
              have HLS : Hid (∀ X, Bs Y X → X.cell? ⟨bb, o + i * 2, none⟩ = some (.string x.d) ∧ X.cell? ⟨bb, o + i * 2 + 1, none⟩ = some (.int .i64 x.pl) ∧ Bs Y X) := hideIt (fun X hX => by
                obtain ⟨z0, z1⟩ := (HCE.out.below (below2 HY0.out hX)).2 i x HXI.out
                exact ⟨z0, z1, hX⟩)
              have HC1 := hideIt (fun X (hX : Bs Y X) => HC1.out X (below2 HY0.out hX))
              have HC3 := hideIt (fun X (hX : Bs Y X) => HC3.out X (below2 HY0.out hX))
              have BS0 : Hid (Bs Y Y.drew) := hideIt (Below.refl _ Y).drew
              have BS1 : Hid (Bs Y (Y.drew.alloc (.cells #[] 37))) := hideIt (BS0.out.alloc _)
              have BS2 : Hid (Bs Y ((Y.drew.alloc (.cells #[] 37)).alloc (.cells #[.string x.d, .int .i64 x.pl] 37))) := hideIt (BS1.out.alloc _)
              have BS3 : Hid (Bs Y ((Y.drew.alloc (.cells #[.string x.d, .int .i64 x.pl] 37)).alloc (.cells #[] 37))) := hideIt ((BS0.out.alloc _).alloc _)
              have OS1 : Hid ((Y.drew.alloc (.cells #[] 37)).ownsRow Y.heap.size 37 2 (.slice (some ⟨Y.heap.size, 0, none⟩) 0 0) 0 (spsV [])) := hideIt (new_empty _ Y.drew _ (Nat.le_refl _))
              have OS2 : Hid (((Y.drew.alloc (.cells #[] 37)).alloc (.cells #[.string x.d, .int .i64 x.pl] 37)).ownsRow Y.heap.size 37 2 (.slice (some ⟨Y.heap.size, 0, none⟩) 0 0) 0 (spsV [])) := hideIt (OS1.out.alloc _)
              have OS3 : Hid (((Y.drew.alloc (.cells #[.string x.d, .int .i64 x.pl] 37)).alloc (.cells #[] 37)).ownsRow Y.heap.size 37 2 (.slice (some ⟨Y.heap.size + 1, 0, none⟩) 0 0) 0 (spsV [])) := hideIt (by
                have := new_empty Y.heap.size (Y.drew.alloc (.cells #[.string x.d, .int .i64 x.pl] 37)) 37 (by simp)
                simpa using this)
              have PS2 : Hid (Pd 37 x ((Y.drew.alloc (.cells #[] 37)).alloc (.cells #[.string x.d, .int .i64 x.pl] 37)) (Y.heap.size + 1)) := hideIt (by simpa using Pd.new 37 x (Y.drew.alloc (.cells #[] 37)))
              have PS3 : Hid (Pd 37 x ((Y.drew.alloc (.cells #[.string x.d, .int .i64 x.pl] 37)).alloc (.cells #[] 37)) Y.heap.size) := hideIt ((Pd.new 37 x Y.drew).alloc _)
              clear HBY HGR HBS
              rcases hck with ⟨hck, hkq2⟩ | hck
              · have HC3 := hideIt (fun (X : World) (_ : Bs Y X) => HC4.out hkq2 X ⟨ab, ao, none⟩)
                have hck' := hck.symm
                subst hck'
                subst hkq2
                have HL3 : Hid ((spsV (acc.drop k)).length = 0 * 2) := hideIt (by rw [HL3.out]; omega)
                have HFIN : Hid (∀ X v (B : Nat), X.ownsRow B 37 2 v (0 + k + 1 + 0) (spsV [] ++ spsV (acc.take k) ++ [.string x.d, .int .i64 x.pl] ++ spsV (acc.drop k)) → ORow X v (insS acc x) ∧ (insS acc x).length = k + 1) := hideIt (fun X v B ho => HFIN.out X v B (by rw [show k - k = 0 by omega]; exact ho))
                go_region_held3 (fun X => X.cell? ⟨bb, o + i * 2, none⟩ = some (.string x.d) ∧ X.cell? ⟨bb, o + i * 2 + 1, none⟩ = some (.int .i64 x.pl) ∧ Bs Y X) (first | exact HLS.out _ BS0.out | assumption | exact HLS.out _ B3.out | exact HLS.out _ B2.out | exact HLS.out _ B1.out | exact HLS.out _ (Bs.alloc (‹_ ∧ _ ∧ Bs _ _›).2.2 _) | go_keep) (first
              | (refine step_append_own (by rfl) (.tmp 87) (.tmp 90) 23 (by rfl) Y.heap.size 37 i0 (.agg #[.string ⟨#[]⟩, .int .i64 0]) 2 24 Tryd.underlying23 hi0 hz0 hz1 hz2 rfl (by decide) _ _ _ (by rfl) O2.out _ _ _ (spsV (acc.drop k)) (by rfl) HL3.out (HC3.out _ B2.out) (spsV_one _) (by unfold maxLen; omega) (by omega) (Below.size B2.out) ?_; intro v3 w3 ho3 hg3; have O3 := hideIt ho3; have B3 := hideIt (Bs.grown B2.out O2.out hg3); clear ho3 hg3)
              | (refine step_append_own (by rfl) (.tmp 81) (.tmp 86) 23 (by rfl) Y.heap.size 37 i0 (.agg #[.string ⟨#[]⟩, .int .i64 0]) 2 24 Tryd.underlying23 hi0 hz0 hz1 hz2 rfl (by decide) _ _ _ (by rfl) O1.out _ _ _ [.string x.d, .int .i64 x.pl] (by rfl) rfl (PB.out).cell (fun u hu => by simp at hu; rcases hu with rfl | rfl <;> rfl) (by unfold maxLen; omega) (by omega) (Below.size B1.out) ?_; intro v2 w2 ho2 hg2; have O2 := hideIt ho2; have B2 := hideIt (Bs.grown B1.out (O1.out) hg2); clear ho2 hg2)
              | (refine step_append_own (by rfl) (.tmp 81) (.tmp 86) 23 (by rfl) Y.heap.size 37 i0 (.agg #[.string ⟨#[]⟩, .int .i64 0]) 2 24 Tryd.underlying23 hi0 hz0 hz1 hz2 rfl (by decide) _ _ _ (by rfl) O1.out _ _ _ [.string x.d, .int .i64 x.pl] (by rfl) rfl (PC.out).cell (fun u hu => by simp at hu; rcases hu with rfl | rfl <;> rfl) (by unfold maxLen; omega) (by omega) (Below.size B1.out) ?_; intro v2 w2 ho2 hg2; have O2 := hideIt ho2; have B2 := hideIt (Bs.grown B1.out (O1.out) hg2); clear ho2 hg2)
              | (refine step_append_own (by rfl) (.tmp 81) (.tmp 86) 23 (by rfl) Y.heap.size 37 i0 (.agg #[.string ⟨#[]⟩, .int .i64 0]) 2 24 Tryd.underlying23 hi0 hz0 hz1 hz2 rfl (by decide) _ _ _ (by rfl) (O1.out.alloc _) _ _ _ [.string x.d, .int .i64 x.pl] (by rfl) rfl (Pd.new 37 x w1).cell (fun u hu => by simp at hu; rcases hu with rfl | rfl <;> rfl) (by unfold maxLen; omega) (by omega) (Below.size (Bs.alloc B1.out _)) ?_; intro v2 w2 ho2 hg2; have O2 := hideIt ho2; have B2 := hideIt (Bs.grown (Bs.alloc B1.out _) ((O1.out.alloc _)) hg2); clear ho2 hg2)
              | (refine step_append_own (by rfl) (.tmp 77) (.tmp 80) 23 (by rfl) Y.heap.size 37 i0 (.agg #[.string ⟨#[]⟩, .int .i64 0]) 2 24 Tryd.underlying23 hi0 hz0 hz1 hz2 rfl (by decide) _ _ _ (by rfl) OS1.out _ _ _ (spsV (acc.take k)) (by rfl) HL1.out (HC1.out _ BS1.out) (spsV_one _) (by unfold maxLen; omega) (by omega) (Below.size BS1.out) ?_; intro v1 w1 ho1 hg1; have O1 := hideIt ho1; have B1 := hideIt (Bs.grown BS1.out OS1.out hg1); clear ho1 hg1)
              | (refine step_append_own (by rfl) (.tmp 77) (.tmp 80) 23 (by rfl) Y.heap.size 37 i0 (.agg #[.string ⟨#[]⟩, .int .i64 0]) 2 24 Tryd.underlying23 hi0 hz0 hz1 hz2 rfl (by decide) _ _ _ (by rfl) OS2.out _ _ _ (spsV (acc.take k)) (by rfl) HL1.out (HC1.out _ BS2.out) (spsV_one _) (by unfold maxLen; omega) (by omega) (Below.size BS2.out) ?_; intro v1 w1 ho1 hg1; have O1 := hideIt ho1; have B1 := hideIt (Bs.grown BS2.out OS2.out hg1); have PB := hideIt (Pd.grown PS2.out hg1 (by simp [Value.ownBlock])); clear ho1 hg1)
              | (refine step_append_own (by rfl) (.tmp 77) (.tmp 80) 23 (by rfl) Y.heap.size 37 i0 (.agg #[.string ⟨#[]⟩, .int .i64 0]) 2 24 Tryd.underlying23 hi0 hz0 hz1 hz2 rfl (by decide) _ _ _ (by rfl) OS3.out _ _ _ (spsV (acc.take k)) (by rfl) HL1.out (HC1.out _ BS3.out) (spsV_one _) (by unfold maxLen; omega) (by omega) (Below.size BS3.out) ?_; intro v1 w1 ho1 hg1; have O1 := hideIt ho1; have B1 := hideIt (Bs.grown BS3.out OS3.out hg1); have PC := hideIt (Pd.grown PS3.out hg1 (by simp [Value.ownBlock])); clear ho1 hg1))
                all_goals go_wp2
                all_goals go_roundw
                case rel => exact ⟨i + 1, insS acc x, by omega, by go_num, by rw [(HFIN.out _ _ _ O3.out).2]; omega, HUP3.out, (HFIN.out _ _ _ O3.out).1, HSR3.out, below2 HBY2.out B3.out⟩
                case measure => simp [intOf]; omega
                case rel => exact ⟨i + 1, insS acc x, by omega, by go_num, by rw [(HFIN.out _ _ _ O3.out).2]; omega, HUP3.out, (HFIN.out _ _ _ O3.out).1, HSR3.out, below2 HBY2.out B3.out⟩
                case measure => simp [intOf]; omega
                case rel => exact ⟨i + 1, insS acc x, by omega, by go_num, by rw [(HFIN.out _ _ _ O3.out).2]; omega, HUP3.out, (HFIN.out _ _ _ O3.out).1, HSR3.out, below2 HBY2.out B3.out⟩
                case measure => simp [intOf]; omega
              · go_region_held3 (fun X => X.cell? ⟨bb, o + i * 2, none⟩ = some (.string x.d) ∧ X.cell? ⟨bb, o + i * 2 + 1, none⟩ = some (.int .i64 x.pl) ∧ Bs Y X) (first | exact HLS.out _ BS0.out | assumption | exact HLS.out _ B3.out | exact HLS.out _ B2.out | exact HLS.out _ B1.out | exact HLS.out _ (Bs.alloc (‹_ ∧ _ ∧ Bs _ _›).2.2 _) | go_keep) (first
              | (refine step_append_own (by rfl) (.tmp 87) (.tmp 90) 23 (by rfl) Y.heap.size 37 i0 (.agg #[.string ⟨#[]⟩, .int .i64 0]) 2 24 Tryd.underlying23 hi0 hz0 hz1 hz2 rfl (by decide) _ _ _ (by rfl) O2.out _ _ _ (spsV (acc.drop k)) (by rfl) HL3.out (HC3.out _ B2.out) (spsV_one _) (by unfold maxLen; omega) (by omega) (Below.size B2.out) ?_; intro v3 w3 ho3 hg3; have O3 := hideIt ho3; have B3 := hideIt (Bs.grown B2.out O2.out hg3); clear ho3 hg3)
              | (refine step_append_own (by rfl) (.tmp 81) (.tmp 86) 23 (by rfl) Y.heap.size 37 i0 (.agg #[.string ⟨#[]⟩, .int .i64 0]) 2 24 Tryd.underlying23 hi0 hz0 hz1 hz2 rfl (by decide) _ _ _ (by rfl) O1.out _ _ _ [.string x.d, .int .i64 x.pl] (by rfl) rfl (PB.out).cell (fun u hu => by simp at hu; rcases hu with rfl | rfl <;> rfl) (by unfold maxLen; omega) (by omega) (Below.size B1.out) ?_; intro v2 w2 ho2 hg2; have O2 := hideIt ho2; have B2 := hideIt (Bs.grown B1.out (O1.out) hg2); clear ho2 hg2)
              | (refine step_append_own (by rfl) (.tmp 81) (.tmp 86) 23 (by rfl) Y.heap.size 37 i0 (.agg #[.string ⟨#[]⟩, .int .i64 0]) 2 24 Tryd.underlying23 hi0 hz0 hz1 hz2 rfl (by decide) _ _ _ (by rfl) O1.out _ _ _ [.string x.d, .int .i64 x.pl] (by rfl) rfl (PC.out).cell (fun u hu => by simp at hu; rcases hu with rfl | rfl <;> rfl) (by unfold maxLen; omega) (by omega) (Below.size B1.out) ?_; intro v2 w2 ho2 hg2; have O2 := hideIt ho2; have B2 := hideIt (Bs.grown B1.out (O1.out) hg2); clear ho2 hg2)
              | (refine step_append_own (by rfl) (.tmp 81) (.tmp 86) 23 (by rfl) Y.heap.size 37 i0 (.agg #[.string ⟨#[]⟩, .int .i64 0]) 2 24 Tryd.underlying23 hi0 hz0 hz1 hz2 rfl (by decide) _ _ _ (by rfl) (O1.out.alloc _) _ _ _ [.string x.d, .int .i64 x.pl] (by rfl) rfl (Pd.new 37 x w1).cell (fun u hu => by simp at hu; rcases hu with rfl | rfl <;> rfl) (by unfold maxLen; omega) (by omega) (Below.size (Bs.alloc B1.out _)) ?_; intro v2 w2 ho2 hg2; have O2 := hideIt ho2; have B2 := hideIt (Bs.grown (Bs.alloc B1.out _) ((O1.out.alloc _)) hg2); clear ho2 hg2)
              | (refine step_append_own (by rfl) (.tmp 77) (.tmp 80) 23 (by rfl) Y.heap.size 37 i0 (.agg #[.string ⟨#[]⟩, .int .i64 0]) 2 24 Tryd.underlying23 hi0 hz0 hz1 hz2 rfl (by decide) _ _ _ (by rfl) OS1.out _ _ _ (spsV (acc.take k)) (by rfl) HL1.out (HC1.out _ BS1.out) (spsV_one _) (by unfold maxLen; omega) (by omega) (Below.size BS1.out) ?_; intro v1 w1 ho1 hg1; have O1 := hideIt ho1; have B1 := hideIt (Bs.grown BS1.out OS1.out hg1); clear ho1 hg1)
              | (refine step_append_own (by rfl) (.tmp 77) (.tmp 80) 23 (by rfl) Y.heap.size 37 i0 (.agg #[.string ⟨#[]⟩, .int .i64 0]) 2 24 Tryd.underlying23 hi0 hz0 hz1 hz2 rfl (by decide) _ _ _ (by rfl) OS2.out _ _ _ (spsV (acc.take k)) (by rfl) HL1.out (HC1.out _ BS2.out) (spsV_one _) (by unfold maxLen; omega) (by omega) (Below.size BS2.out) ?_; intro v1 w1 ho1 hg1; have O1 := hideIt ho1; have B1 := hideIt (Bs.grown BS2.out OS2.out hg1); have PB := hideIt (Pd.grown PS2.out hg1 (by simp [Value.ownBlock])); clear ho1 hg1)
              | (refine step_append_own (by rfl) (.tmp 77) (.tmp 80) 23 (by rfl) Y.heap.size 37 i0 (.agg #[.string ⟨#[]⟩, .int .i64 0]) 2 24 Tryd.underlying23 hi0 hz0 hz1 hz2 rfl (by decide) _ _ _ (by rfl) OS3.out _ _ _ (spsV (acc.take k)) (by rfl) HL1.out (HC1.out _ BS3.out) (spsV_one _) (by unfold maxLen; omega) (by omega) (Below.size BS3.out) ?_; intro v1 w1 ho1 hg1; have O1 := hideIt ho1; have B1 := hideIt (Bs.grown BS3.out OS3.out hg1); have PC := hideIt (Pd.grown PS3.out hg1 (by simp [Value.ownBlock])); clear ho1 hg1))
                all_goals go_wp2
                all_goals go_roundw
                case rel => exact ⟨i + 1, insS acc x, by omega, by go_num, by rw [(HFIN.out _ _ _ O3.out).2]; omega, HUP3.out, (HFIN.out _ _ _ O3.out).1, HSR3.out, below2 HBY2.out B3.out⟩
                case measure => simp [intOf]; omega
                case rel => exact ⟨i + 1, insS acc x, by omega, by go_num, by rw [(HFIN.out _ _ _ O3.out).2]; omega, HUP3.out, (HFIN.out _ _ _ O3.out).1, HSR3.out, below2 HBY2.out B3.out⟩
                case measure => simp [intOf]; omega
                case rel => exact ⟨i + 1, insS acc x, by omega, by go_num, by rw [(HFIN.out _ _ _ O3.out).2]; omega, HUP3.out, (HFIN.out _ _ _ O3.out).1, HSR3.out, below2 HBY2.out B3.out⟩
                case measure => simp [intOf]; omega
    · have i2 : decide ((i : Int) < (n : Int)) = false := decide_eq_false (by omega)
      have HE : Hid (R = some acc) := hideIt (by
        rw [← hsr, List.drop_of_length_le (by rw [HN.out]; omega), srtF])
      have HS := hideIt hor.srow
      clear hsr hor hup hb
      go_wp2
      go_ret2
      exact SrTo.good HE.out HS.out HB.out
end Go.Proofs.YtllpfpbpdgpnkaaDoor.Ix
