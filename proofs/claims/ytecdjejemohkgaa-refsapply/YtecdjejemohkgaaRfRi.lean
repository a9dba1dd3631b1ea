/- Refs: copyOf. -/
import Derived.Test.YtecdjejemohkgaaRfRh
import Derived.Deep.RegionWith
namespace Go.Proofs.Ytecdjejemohkgaa.Rf
open Cb Go.RowKit
theorem own_slice {w : World} {B n k : Nat} {t : TypeId} {v : Value} {xs : List Value} (h : w.ownsRow B t k v n xs) : ∃ a c, v = .slice a n c := by
  rcases h.2 with ⟨e, h0⟩ | ⟨g, cap, cur, e, r⟩
  · exact ⟨none, 0, by rw [e, h0]⟩
  · exact ⟨_, _, e⟩
theorem own_at {w : World} {B : Nat} {v : Value} {m : List Rf} (h : w.ownsRow B 59 2 v m.length (rfsV m)) (hm : 0 < m.length) : ∃ g cap, v = .slice (some ⟨g, 0, none⟩) m.length cap ∧ B ≤ g ∧ m.length ≤ cap ∧ (∀ i, w.frozen? ⟨g, i, none⟩ = false) ∧ ∀ i x, m[i]? = some x → w.cell? ⟨g, i * 2, none⟩ = some (.string x.nm) ∧ w.cell? ⟨g, i * 2 + 1, none⟩ = some (.string x.id) := by
  rcases h.2 with ⟨e, h0⟩ | ⟨g, cap, cur, e, h1, hg, h2, h3, r1, r2⟩
  · omega
  · refine ⟨g, cap, e, h1, h2, fun i => frz hg i, fun i x hi => ?_⟩
    have hil := (List.getElem?_eq_some_iff.1 hi).1
    obtain ⟨d0, d1⟩ := rfsV_at m i x hi
    subst e
    exact ⟨by rw [h.cellAt (i * 2) (by omega), d0], by rw [h.cellAt (i * 2 + 1) (by omega), d1]⟩
/-- A cell of a row set to what it holds: the row stays. -/
theorem own_set {w : World} {B n k : Nat} {t : TypeId} {g cap : Nat} {xs : List Value} (h : w.ownsRow B t k (.slice (some ⟨g, 0, none⟩) n cap) n xs) (j : Nat) (u : Value) (hj : xs[j]? = some u) : (w.setCell ⟨g, j, none⟩ u).ownsRow B t k (.slice (some ⟨g, 0, none⟩) n cap) n xs := by
  refine ⟨h.1, ?_⟩
  rcases h.2 with ⟨e, h0⟩ | ⟨g', cap', cur, e, h1, hg, h2, h3, r1, r2⟩
  · cases e
  · cases e
    refine .inr ⟨g, cap, cur, rfl, h1, ?_, h2, h3, r1, r2⟩
    rw [heap_setCell_same w g j cur t u hg]
    congr 2
    rw [← r2, List.getElem?_take] at hj
    split at hj
    · rw [Array.getElem?_toList] at hj
      obtain ⟨hlt, e⟩ := Array.getElem?_eq_some_iff.1 hj
      rw [Array.setIfInBounds, dif_pos hlt, ← e, Array.set_getElem_self]
    · cases hj
theorem own_two {w : World} {B : Nat} {g cap : Nat} {m : List Rf} {n : Nat} (h : w.ownsRow B 59 2 (.slice (some ⟨g, 0, none⟩) n cap) n (rfsV m)) (i : Nat) (x : Rf) (hi : m[i]? = some x) : ((w.setCell ⟨g, i * 2, none⟩ (.string x.nm)).setCell ⟨g, i * 2 + 1, none⟩ (.string x.id)).ownsRow B 59 2 (.slice (some ⟨g, 0, none⟩) n cap) n (rfsV m) := by
  obtain ⟨d0, d1⟩ := rfsV_at m i x hi
  exact own_set (own_set h _ _ d0) _ _ d1
theorem own_other {w : World} {B n k : Nat} {t : TypeId} {v : Value} {xs : List Value} (h : w.ownsRow B t k v n xs) (p : Addr) (hp : p.block < B) (u : Value) : (w.setCell p u).ownsRow B t k v n xs := by
  refine ⟨h.1, ?_⟩
  rcases h.2 with h0 | ⟨g, cap, cur, e, h1, hg, r⟩
  · exact .inl h0
  · refine .inr ⟨g, cap, cur, e, h1, ?_, r⟩
    rw [heap_setCell_other w p g u (by omega)]
    exact hg
theorem own_less {w : World} {B B' n k : Nat} {t : TypeId} {v : Value} {xs : List Value} (h : w.ownsRow B t k v n xs) (hB : B' ≤ B) : w.ownsRow B' t k v n xs := by
  refine ⟨h.1, ?_⟩
  rcases h.2 with h0 | ⟨g, cap, cur, e, h1, r⟩
  · exact .inl h0
  · exact .inr ⟨g, cap, cur, e, by omega, r⟩
theorem infoRs : (Try.prog.info? 24).map (·.size) = some 2 := by kernel_rfl
/-- Refs of their own that a call made. -/
def CopTo (w : World) (hd : ByteArray) (m : List Rf) (e : Ending) (w' : World) : Prop := ∃ v, e = .returned (.agg #[.string hd, v]) ∧ w'.ownsRow w.heap.size 59 2 v m.length (rfsV m) ∧ Below w.heap.size w w'
set_option maxHeartbeats 3200000 in
set_option maxRecDepth 100000 in
theorem copyOf_any (hd : ByteArray) (v : Value) (m : List Rf) (w : World) (h : RRow w v m) (hn : m.length ≤ 100000) (hz : hd.size ≤ 281474976710656) (hzs : ∀ (i : Nat) (x : Rf), m[i]? = some x → x.nm.size ≤ 281474976710656 ∧ x.id.size ≤ 281474976710656) :
    Calls Try.prog 23 #[.agg #[.string hd, v]] w fun e w' => CopTo w hd m e w' := by
  have HT : Hid (∀ e w', CopTo w hd m e w' ↔ ∃ v, e = .returned (.agg #[.string hd, v]) ∧ w'.ownsRow w.heap.size 59 2 v m.length (rfsV m) ∧ Below w.heap.size w w') := hideIt (fun _ _ => Iff.rfl)
  obtain ⟨W, hW⟩ : ∃ W, (w.alloc (.cells #[.string hd, v] 24)).alloc (.cells #[.string ⟨#[]⟩, .slice none 0 0] 24) = W := ⟨_, rfl⟩
  have hsz : W.heap.size = w.heap.size + 2 := by rw [← hW]; simp
  have hb : Below w.heap.size w W := by rw [← hW]; exact ((Below.refl _ w).alloc (Nat.le_refl _) _).alloc (by simp) _
  have hg1 : W.heap[w.heap.size + 1]? = some (.cells #[.string ⟨#[]⟩, .slice none 0 0] 24) := by rw [← hW]; exact alloc_at (by simp)
  have hg0 : W.heap[w.heap.size]? = some (.cells #[.string hd, v] 24) := by
    rw [← hW]
    have := ((Below.refl (w.heap.size + 1) (w.alloc (.cells #[.string hd, v] 24))).alloc (by simp) (.cells #[.string ⟨#[]⟩, .slice none 0 0] 24)).block w.heap.size (by omega)
    rw [this]
    exact alloc_at rfl
  have HF : Hid (∀ w', Below W.heap.size W w' → w'.cell? ⟨w.heap.size, 0, none⟩ = some (.string hd) ∧ w'.heap[w.heap.size + 1]? = some (.cells #[.string ⟨#[]⟩, .slice none 0 0] 24)) := hideIt (fun w' hb' => ⟨cellAt (by rw [hb'.block w.heap.size (by omega)]; exact hg0) rfl, by rw [hb'.block (w.heap.size + 1) (by omega)]; exact hg1⟩)
  have HC := hideIt (cloneR_any v m W (h.below hb) hn)
  have HB := hideIt hb
  have HW := hideIt hW
  have HSZ := hideIt hsz
  have HK := hideIt (fun x hx w => clone_any x w hx)
  have HZS := hideIt hzs
  have HN := hideIt hn
  obtain ⟨n, hnl⟩ : ∃ n, m.length = n := ⟨_, rfl⟩
  have HNL := hideIt hnl
  have hKH := hideIt (fun w => clone_any hd w hz)
  have nI : (n : Int) ≤ 100000 := by omega
  clear h hW hsz hb hg0 hg1 hzs hz hn
  go_enter Try.func23, Try.ntmps23
  go_wp2_with (first | (go_at_call 43; rw [HW.out]; refine HC.out.mono ?_; rintro e w1 ⟨v1, rfl, hr1, hb1⟩; obtain ⟨a, c, e1⟩ := own_slice hr1; subst e1; rw [HNL.out] at hr1))
  go_loopw [11] (fun s11 wr => ∃ i : Nat, i ≤ n ∧ s11 = .int .i64 (i : Int) ∧ Below W.heap.size W wr ∧ wr.ownsRow W.heap.size 59 2 (.slice a n c) n (rfsV m)) (fun s11 _ => n - (intOf s11).toNat)
  case atStart => exact ⟨0, by omega, rfl, hb1, hr1⟩
  case round =>
    obtain ⟨i, hi, rfl, hbr, hrr⟩ := hrel
    have HBR := hideIt hbr
    have HRR := hideIt hrr
    clear hb1 hr1
    by_cases hlt : i < n
    · have i1 : (i : Int) < (n : Int) := by omega
      have i2 : decide ((i : Int) < (n : Int)) = true := decide_eq_true i1
      obtain ⟨x, hxi⟩ : ∃ x, m[i]? = some x := ⟨m[i]'(by rw [HNL.out]; exact hlt), by simp⟩
      have hrr2 := hrr
      rw [← HNL.out] at hrr2
      obtain ⟨g, cap, e, hgB, hcap, hfz, hcc⟩ := own_at hrr2 (by rw [HNL.out]; omega)
      cases e
      obtain ⟨c0, c1⟩ := hcc i x hxi
      have hglt : g < wr.heap.size := by
        rcases hrr.2 with ⟨e, _⟩ | ⟨g', cap', cur, e, _, hg, _⟩
        · cases e
        · cases e; exact block_lt hg
      have HL := hideIt (fun w => HK.out x.nm (HZS.out i x hxi).1 w)
      have HM := hideIt (fun w => HK.out x.id (HZS.out i x hxi).2 w)
      have hbx : Below wr.heap.size wr (wr.alloc (.cells #[.string x.nm, .string x.id] 59)).drew := (((Below.refl _ wr).alloc (Nat.le_refl _) _)).trans ⟨rfl, rfl, rfl, Nat.le_refl _, fun _ _ => rfl⟩
      have HX : Hid (∀ w', Below (wr.alloc (.cells #[.string x.nm, .string x.id] 59)).drew.heap.size (wr.alloc (.cells #[.string x.nm, .string x.id] 59)).drew w' → Below wr.heap.size wr w' ∧ (w'.cell? ⟨wr.heap.size, 0, none⟩ = some (.string x.nm) ∧ w'.cell? ⟨wr.heap.size, 1, none⟩ = some (.string x.id)) ∧ (w'.cell? ⟨g, i * 2, none⟩ = some (.string x.nm) ∧ w'.cell? ⟨g, i * 2 + 1, none⟩ = some (.string x.id) ∧ w'.frozen? ⟨g, i * 2, none⟩ = false ∧ w'.frozen? ⟨g, i * 2 + 1, none⟩ = false)) := hideIt (fun w' hb' => by
        have hq : Below wr.heap.size wr w' := hbx.trans (hb'.mono hbx.size)
        have ho := own_below hrr2 hq
        obtain ⟨g2, cap2, e, _, _, hfz2, hcc2⟩ := own_at ho (by rw [HNL.out]; omega)
        cases e
        obtain ⟨d0, d1⟩ := hcc2 i x hxi
        refine ⟨hq, ⟨?_, ?_⟩, d0, d1, hfz2 _, hfz2 _⟩
        · rw [hb'.cell (p := ⟨wr.heap.size, 0, none⟩) (by simp [World.drew])]
          exact cellAt (w := (wr.alloc (.cells #[.string x.nm, .string x.id] 59)).drew) (alloc_at (w := wr) rfl) rfl
        · rw [hb'.cell (p := ⟨wr.heap.size, 1, none⟩) (by simp [World.drew])]
          exact cellAt (w := (wr.alloc (.cells #[.string x.nm, .string x.id] 59)).drew) (alloc_at (w := wr) rfl) rfl)
      have HR2 : Hid (∀ w', Below wr.heap.size wr w' → Below W.heap.size W ((w'.setCell ⟨g, i * 2, none⟩ (.string x.nm)).setCell ⟨g, i * 2 + 1, none⟩ (.string x.id)) ∧ ((w'.setCell ⟨g, i * 2, none⟩ (.string x.nm)).setCell ⟨g, i * 2 + 1, none⟩ (.string x.id)).ownsRow W.heap.size 59 2 (.slice (some ⟨g, 0, none⟩) n c) n (rfsV m)) := hideIt (fun w' hb' => by
        have ho := own_below HRR.out hb'
        exact ⟨((hbr.trans (hb'.mono hbr.size)).setCell (by show W.heap.size ≤ g; exact hgB) _).setCell (by show W.heap.size ≤ g; exact hgB) _, own_two ho i x hxi⟩)
      rw [HNL.out] at *
      clear hrr hrr2 hbr hcc hfz hxi hbx
      go_wp2
      go_region_with (first
        | (go_at_call 38; refine (HL.out _).mono ?_; rintro e w4 ⟨rfl, hb4⟩; have FN := hideIt (below_step JB.out (Nat.le_refl _) hb4); obtain ⟨r0, ⟨r1, r2⟩, r3, r4, r5, r6⟩ := HX.out _ FN.out; clear hb4)
        | (go_at_call 38; refine (HL.out _).mono ?_; rintro e w3 ⟨rfl, hb3⟩; have JA := hideIt hb3; obtain ⟨t0, ⟨t1, t2⟩, t3, t4, t5, t6⟩ := HX.out _ JA.out; clear hb3)
        | (go_at_call 38; refine (HM.out _).mono ?_; rintro e w4 ⟨rfl, hb4⟩; have FN := hideIt (below_step JA.out (Nat.le_refl _) hb4); obtain ⟨r0, ⟨r1, r2⟩, r3, r4, r5, r6⟩ := HX.out _ FN.out; clear hb4)
        | (go_at_call 38; refine (HM.out _).mono ?_; rintro e w3 ⟨rfl, hb3⟩; have JB := hideIt hb3; obtain ⟨t0, ⟨t1, t2⟩, t3, t4, t5, t6⟩ := HX.out _ JB.out; clear hb3))
      all_goals go_wp2
      all_goals go_roundw
      all_goals first
        | exact ⟨i + 1, by omega, by go_num, HR2.out _ (HX.out _ FN.out).1⟩
        | (simp [intOf]; omega)
    · have i2 : decide ((i : Int) < (n : Int)) = false := decide_eq_false (by omega)
      obtain ⟨f0, f1⟩ := HF.out _ hbr
      have HE : Hid (∀ w', Below wr.heap.size wr w' → w'.cell? ⟨w.heap.size + 1, 0, none⟩ = some (.string ⟨#[]⟩) ∧ w'.cell? ⟨w.heap.size + 1, 1, none⟩ = some (.slice none 0 0) ∧ w'.frozen? ⟨w.heap.size + 1, 0, none⟩ = false ∧ w'.frozen? ⟨w.heap.size + 1, 1, none⟩ = false) := hideIt (fun w' hb' => by
        have h := (HF.out _ (below_step hbr (Nat.le_refl _) hb')).2
        exact ⟨cellAt h rfl, cellAt h rfl, frz h _, frz h _⟩)
      have HG : Hid (∀ w', Below wr.heap.size wr w' → ((w'.setCell ⟨w.heap.size + 1, 0, none⟩ (.string hd)).setCell ⟨w.heap.size + 1, 1, none⟩ (.slice a n c)).ownsRow w.heap.size 59 2 (.slice a n c) n (rfsV m) ∧ Below w.heap.size w ((w'.setCell ⟨w.heap.size + 1, 0, none⟩ (.string hd)).setCell ⟨w.heap.size + 1, 1, none⟩ (.slice a n c)) ∧ ((w'.setCell ⟨w.heap.size + 1, 0, none⟩ (.string hd)).setCell ⟨w.heap.size + 1, 1, none⟩ (.slice a n c)).heap[w.heap.size + 1]? = some (.cells #[.string hd, .slice a n c] 24)) := hideIt (fun w' hb' => by
        have ho := own_below hrr hb'
        have hlt : w.heap.size + 1 < W.heap.size := by rw [HSZ.out]; omega
        have h2 : Below w.heap.size w w' := below_step HB.out (Nat.le_refl _) (below_step hbr (Nat.le_refl _) hb')
        refine ⟨own_less (own_other (own_other ho _ (by show w.heap.size + 1 < _; exact hlt) _) _ (by show w.heap.size + 1 < _; exact hlt) _) (by omega), ?_, ?_⟩
        · exact (h2.setCell (by show w.heap.size ≤ w.heap.size + 1; omega) _).setCell (by show w.heap.size ≤ w.heap.size + 1; omega) _
        · have h := (HF.out _ (below_step hbr (Nat.le_refl _) hb')).2
          rw [heap_setCell_same _ (w.heap.size + 1) 1 _ 24 _ (heap_setCell_same w' (w.heap.size + 1) 0 _ 24 _ h)]
          rfl)
      rw [HNL.out] at HT
      clear hbr hrr f1
      go_wp2_with (first | (go_at_call 38; refine (hKH.out _).mono ?_; rintro e w4 ⟨rfl, hb4⟩; obtain ⟨f2, f3, f4, f5⟩ := HE.out _ hb4))
      (try simp only [Exit.inBlock, Exit.then])
      refine bodyPost_ret (v := .agg #[.string hd, .slice a n c]) (results_cell_row Try.results23 _ _ (w.heap.size + 1) 24 _ (0, 0) _ rfl (HG.out _ hb4).2.2 Try.underlying24 rfl infoRs) rfl ?_
      exact (HT.out _ _).2 ⟨_, rfl, (HG.out _ hb4).1, (HG.out _ hb4).2.1⟩
end Go.Proofs.Ytecdjejemohkgaa.Rf
