/- Refs: the same refs? The law's own function: walked. -/
import Derived.Test.YtbpjdphflkncjaaGreatDoorRfRu
namespace Go.Proofs.YtbpjdphflkncjaaGreatDoor.Rf
open Cb Go.RowKit
theorem heads_cells {w : World} {hd hd2 : ByteArray} {v v2 : Value} : ∀ w', Below ((w.alloc (.cells #[.string hd, v] 34)).alloc (.cells #[.string hd2, v2] 30)).heap.size ((w.alloc (.cells #[.string hd, v] 34)).alloc (.cells #[.string hd2, v2] 30)) w' → (w'.cell? ⟨w.heap.size, 1, none⟩ = some v ∧ w'.cell? ⟨w.heap.size + 1, 1, none⟩ = some v2) ∧ Below w.heap.size w w' := by
  intro w' hb
  have h1 : ((w.alloc (.cells #[.string hd, v] 34)).alloc (.cells #[.string hd2, v2] 30)).heap[w.heap.size + 1]? = some (.cells #[.string hd2, v2] 30) := alloc_at (by simp)
  have h0 : ((w.alloc (.cells #[.string hd, v] 34)).alloc (.cells #[.string hd2, v2] 30)).heap[w.heap.size]? = some (.cells #[.string hd, v] 34) := by
    rw [((Below.refl (w.heap.size + 1) (w.alloc (.cells #[.string hd, v] 34))).alloc (by simp) (.cells #[.string hd2, v2] 30)).block w.heap.size (by omega)]
    exact alloc_at rfl
  refine ⟨⟨cellAt (by rw [hb.block w.heap.size (by simp; omega)]; exact h0) rfl, cellAt (by rw [hb.block (w.heap.size + 1) (by simp)]; exact h1) rfl⟩, ?_⟩
  exact (((Below.refl _ w).alloc (Nat.le_refl _) _).alloc (by simp) _).trans (hb.mono (by simp; omega))
set_option maxHeartbeats 1600000 in
set_option maxRecDepth 100000 in
theorem same_any (hd hd2 : ByteArray) (v v2 : Value) (l l2 : List Rf) (w : World) (h : RRow w v l) (h2 : RRow w v2 l2) (hl : l.length ≤ 100000) (hl2 : l2.length ≤ 100000) :
    Calls Tryz.prog 19 #[.agg #[.string hd, v], .agg #[.string hd2, v2]] w fun e w' => e = .returned (.bool (decide (hd = hd2 ∧ l = l2))) ∧ Below w.heap.size w w' := by
  obtain ⟨W, hW⟩ : ∃ W, (w.alloc (.cells #[.string hd, v] 34)).alloc (.cells #[.string hd2, v2] 30) = W := ⟨_, rfl⟩
  have HF := hideIt (heads_cells (w := w) (hd := hd) (hd2 := hd2) (v := v) (v2 := v2))
  rw [hW] at HF
  obtain ⟨⟨hc1, hc2⟩, hb⟩ := HF.out W (Below.refl _ _)
  have HB := hideIt hb
  have HW := hideIt hW
  obtain ⟨n, hn⟩ : ∃ n, l.length = n := ⟨_, rfl⟩
  obtain ⟨n2, hn2⟩ : ∃ n, l2.length = n := ⟨_, rfl⟩
  have HN := hideIt hn
  have HN2 := hideIt hn2
  have nI : (n : Int) ≤ 100000 := by omega
  have nI2 : (n2 : Int) ≤ 100000 := by omega
  have HR : Hid (∀ i x, l[i]? = some x → ∃ b o c, v = .slice (some ⟨b, o, none⟩) n c ∧ ∀ w', Below W.heap.size W w' → w'.cell? ⟨b, o + i * 2, none⟩ = some (.string x.nm) ∧ w'.cell? ⟨b, o + i * 2 + 1, none⟩ = some (.string x.id)) := hideIt (fun i x hi => by
    have hil := (List.getElem?_eq_some_iff.1 hi).1
    obtain ⟨b, o, c, e, _, _, h3⟩ := h.cells (by omega)
    rw [hn] at e
    exact ⟨b, o, c, e, fun w' hb' => h3 i x hi w' (below_step hb (Nat.le_refl _) hb')⟩)
  have HR2 : Hid (∀ i x, l2[i]? = some x → ∃ b o c, v2 = .slice (some ⟨b, o, none⟩) n2 c ∧ ∀ w', Below W.heap.size W w' → w'.cell? ⟨b, o + i * 2, none⟩ = some (.string x.nm) ∧ w'.cell? ⟨b, o + i * 2 + 1, none⟩ = some (.string x.id)) := hideIt (fun i x hi => by
    have hil := (List.getElem?_eq_some_iff.1 hi).1
    obtain ⟨b, o, c, e, _, _, h3⟩ := h2.cells (by omega)
    rw [hn2] at e
    exact ⟨b, o, c, e, fun w' hb' => h3 i x hi w' (below_step hb (Nat.le_refl _) hb')⟩)
  have hs := tl_eq (a := hd) (b := hd2)
  obtain ⟨r, hr⟩ : ∃ r, decide (hd = hd2 ∧ l = l2) = r := ⟨_, rfl⟩
  have HRR := hideIt hr
  rw [hr]
  obtain ⟨_, a, c, rfl, h1, _, _⟩ := h
  obtain ⟨_, a2, c2, rfl, h3, _, _⟩ := h2
  rw [hn] at h1 HF hW HR HW hc1 ⊢
  rw [hn2] at h3 HF hW HR2 HW hc2 ⊢
  obtain ⟨s, hse⟩ : ∃ s, decide (hd = hd2) = s := ⟨_, rfl⟩
  rw [hse] at hs
  clear hn hn2 hl hl2 hb hW hr
  cases s
  · have HZ : Hid (r = false) := hideIt (by
      rw [← HRR.out]
      exact decide_eq_false (fun k => (of_decide_eq_false hse) k.1))
    go_enter Tryz.func19, Tryz.ntmps19
    go_wp2
    go_ret
    exact ⟨by rw [HZ.out]; rfl, by rw [HW.out]; exact HB.out⟩
  · by_cases hnn : n = n2
    · subst hnn
      have m1 : ((n : Int) == (n : Int)) = true := by simp
      have HEH := hideIt (of_decide_eq_true hse)
      go_enter Tryz.func19, Tryz.ntmps19
      go_wp2
      go_loopw [5] (fun s5 wr => ∃ i : Nat, i ≤ n ∧ s5 = .int .i64 (i : Int) ∧ Below W.heap.size W wr ∧ (∀ j, j < i → l[j]? = l2[j]?)) (fun s5 _ => n - (intOf s5).toNat)
      case atStart => exact ⟨0, by omega, rfl, by rw [HW.out]; exact Below.refl _ _, fun j hj => by omega⟩
      case round =>
        obtain ⟨i, hi, rfl, hbr, hpre⟩ := hrel
        obtain ⟨⟨d1, d2⟩, d3⟩ := HF.out _ hbr
        have HPR := hideIt hpre
        have HBR := hideIt hbr
        have HD3 := hideIt d3
        clear hpre d3
        by_cases hlt : i < n
        · have i1 : (i : Int) < (n : Int) := by omega
          have i2 : decide ((i : Int) < (n : Int)) = true := decide_eq_true i1
          obtain ⟨x, hxi⟩ : ∃ x, l[i]? = some x := ⟨l[i]'(by rw [HN.out]; exact hlt), by simp⟩
          obtain ⟨y, hyi⟩ : ∃ y, l2[i]? = some y := ⟨l2[i]'(by rw [HN2.out]; exact hlt), by simp⟩
          obtain ⟨b, o, c', e, hcc⟩ := HR.out i x hxi
          obtain ⟨b2, o2, c2', e2, hcc2⟩ := HR2.out i y hyi
          cases e
          cases e2
          obtain ⟨k0, k1⟩ := hcc wr hbr
          obtain ⟨g0, g1⟩ := hcc2 wr hbr
          have HXI := hideIt hxi
          have HYI := hideIt hyi
          have hq := neqR x y
          rw [rf_eq] at hq
          obtain ⟨f, hf⟩ : ∃ f, decide (x = y) = f := ⟨_, rfl⟩
          rw [hf] at hq
          have HFF := hideIt hf
          clear hf hxi hyi hcc hcc2 hbr
          cases f
          · have HZ : Hid (r = false) := hideIt (by
              rw [← HRR.out]
              refine decide_eq_false (fun k => (of_decide_eq_false HFF.out) ?_)
              have h1 := HXI.out
              rw [k.2, HYI.out] at h1
              cases h1
              rfl)
            go_wp2
            go_quiet (fail)
            go_wp2
            go_ret
            exact ⟨by rw [HZ.out]; rfl, below_step HD3.out (by have := HD3.out.size; omega) (below_drewN _ _)⟩
          · go_wp2
            go_quiet (fail)
            go_wp2
            go_roundw
            case rel =>
              refine ⟨i + 1, by omega, by go_num, below_step HBR.out (by have := HBR.out.size; omega) (below_drewN _ _), fun j hj => ?_⟩
              rcases (by omega : j < i ∨ j = i) with h | h
              · exact HPR.out j h
              · subst h
                rw [HXI.out, HYI.out, of_decide_eq_true HFF.out]
            case measure => simp [intOf]; omega
        · have i2 : decide ((i : Int) < (n : Int)) = false := decide_eq_false (by omega)
          obtain rfl : i = n := by omega
          have HZ : Hid (r = true) := hideIt (by
            rw [← HRR.out]
            refine decide_eq_true ⟨HEH.out, List.ext_getElem? (fun j => ?_)⟩
            by_cases hj : j < i
            · exact HPR.out j hj
            · rw [List.getElem?_eq_none (by rw [HN.out]; omega), List.getElem?_eq_none (by rw [HN2.out]; omega)])
          go_wp2
          go_ret
          exact ⟨by rw [HZ.out]; rfl, HD3.out⟩
    · have m0 : ¬ (n : Int) = (n2 : Int) := by omega
      have m1 : ((n : Int) == (n2 : Int)) = false := beq_eq_false_iff_ne.2 m0
      have m2 : ((n : Int) != (n2 : Int)) = true := by simp [bne, m1]
      have HZ : Hid (r = false) := hideIt (by
        rw [← HRR.out]
        refine decide_eq_false (fun k => hnn ?_)
        rw [← HN.out, ← HN2.out, k.2])
      go_enter Tryz.func19, Tryz.ntmps19
      go_wp2
      go_ret
      exact ⟨by rw [HZ.out]; rfl, by rw [HW.out]; exact HB.out⟩
end Go.Proofs.YtbpjdphflkncjaaGreatDoor.Rf
