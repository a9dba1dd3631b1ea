/- The law on paths, walked. -/
import Derived.Test.YtgbmfhbodfmpbaaDoorLsr
import Derived.Test.YtgbmfhbodfmpbaaDoorLbawk
namespace Go.Proofs.YtgbmfhbodfmpbaaDoor
open Go.RowKit
theorem below_drewN (w : World) (n : Nat) : Below w.heap.size w (w.drewN n) := ⟨rfl, rfl, rfl, Nat.le_refl _, fun _ _ => rfl⟩
theorem splE_cases (p : ByteArray) : splE p = 0 ∨ splE p = 3 ∨ splE p = 50 := by
  unfold splE
  repeat' split
  all_goals simp
set_option maxHeartbeats 1600000 in
set_option maxRecDepth 100000 in
theorem splits_law (s : ByteArray) (w : World) (hm : MaxAt w) (hs : s.size ≤ maxLen) :
    Calls Tryd.prog 3 #[.string s] w fun e w' => e = .returned (.bool true) ∧ Below w.heap.size w w' := by
  have HF := hideIt (fun w => few_any s w hs)
  have hfs := fewS_size s
  obtain ⟨t, ht⟩ : ∃ t, fewS s = t := ⟨_, rfl⟩
  rw [ht] at HF hfs
  have HS := hideIt (split_any t w hm (by omega))
  have HR := hideIt (fun w => refsplit_any t w (by omega))
  have HJ := hideIt (fun v B w h => join_any v t B w h (by omega))
  have HA := hideIt awake_any
  have hc := splE_cases t
  have HU : Hid (∀ w e w', SplitTo w t e w' → ∃ v, e = .returned (.tuple #[v, .int .i64 (splE t)]) ∧ Below w.heap.size w w' ∧ (¬ splE t = 0 → v = .slice none 0 0) ∧ (splE t = 0 → StrRow w.heap.size w' v (pieces t))) := fun _ _ _ h => h
  obtain ⟨E, hE⟩ : ∃ E, splE t = E := ⟨_, rfl⟩
  rw [hE] at hc HU
  clear ht hs hm hE
  by_cases h0 : E = 0
  · subst h0
    clear hc
    obtain ⟨q, hq⟩ : ∃ q, (pieces t).length = q := ⟨_, rfl⟩
    have hq3 : q ≤ 301 := by have := pieces_few t; omega
    obtain ⟨l, hl⟩ : ∃ l, pieces t = l := ⟨_, rfl⟩
    rw [hl] at hq HU HJ
    clear hl
    have HQ := hideIt hq
    clear hq
    have HU' : Hid (∀ w e w', SplitTo w t e w' → ∃ g cap, e = .returned (.tuple #[.slice (some ⟨g, 0, none⟩) q cap, .int .i64 0]) ∧ Below w.heap.size w w' ∧ g < w'.heap.size ∧ q ≤ cap ∧ (∀ j x, l[j]? = some x → w'.cell? ⟨g, j, none⟩ = some (.string x)) ∧ StrRow w.heap.size w' (.slice (some ⟨g, 0, none⟩) q cap) l) := hideIt (fun w e w' h => by
      obtain ⟨v, e1, hb, _, hr⟩ := HU.out w e w' h
      obtain ⟨g, cap, rfl, h1, h2, h3, h4⟩ := hr rfl
      rw [HQ.out] at e1 h1
      exact ⟨g, cap, e1, hb, h3, h1, h4, ⟨g, cap, by rw [HQ.out], by rw [HQ.out]; exact h1, h2, h3, h4⟩⟩)
    clear HU
    go_enter Tryd.func3, Tryd.ntmps3
    go_wp2_with (first | (go_at_call 6; refine (HF.out _).mono ?_; rintro e wx ⟨rfl, hwx⟩; obtain rfl := hwx.symm) | (go_at_call 5; refine HS.out.mono ?_; rintro e w1 he1; obtain ⟨g1, c1, rfl, hb1, hg1, hc1, hx1, hr1⟩ := HU'.out _ _ _ he1; clear he1; have HX1 := hideIt hx1; clear hx1; have HR1 := hideIt hr1; clear hr1) | (go_at_call 7; refine (HR.out _).mono ?_; rintro e w2 he2; obtain ⟨g2, c2, rfl, hb2, hg2, hc2, hx2, hr2⟩ := HU'.out _ _ _ he2; clear he2; have HX2 := hideIt hx2; clear hx2 hr2) | (go_at_call 8; refine (HA.out _).mono ?_; rintro e w3 ⟨rfl, hb3⟩))
    have HX1' : Hid (∀ j x, l[j]? = some x → w3.cell? ⟨g1, j, none⟩ = some (.string x)) := hideIt (fun j x hj => by rw [(below2 hb2 hb3).cell (p := ⟨g1, j, none⟩) hg1]; exact HX1.out j x hj)
    have HX2' : Hid (∀ j x, l[j]? = some x → w3.cell? ⟨g2, j, none⟩ = some (.string x)) := hideIt (fun j x hj => by rw [hb3.cell (p := ⟨g2, j, none⟩) hg2]; exact HX2.out j x hj)
    have HR3 := hideIt ((HR1.out.below hb2).below hb3)
    clear HX1 HX2 HR1
    go_loopw [7] (fun u wr => ∃ i nq : Nat, u = .int .i64 i ∧ i ≤ q ∧ wr = w3.drewN nq) (fun u _ => q - (intOf u).toNat)
    case atStart => exact ⟨0, 0, rfl, by omega, rfl⟩
    case round =>
      obtain ⟨i, nq, rfl, hi, rfl⟩ := hrel
      by_cases hlt : i < q
      · have d1 : decide ((i : Int) < (q : Int)) = true := by simp; omega
        have hil : i < l.length := by rw [HQ.out]; exact hlt
        obtain ⟨x, hxe⟩ : ∃ x, l[i] = x := ⟨_, rfl⟩
        have e1 : w3.cell? ⟨g1, i, none⟩ = some (.string x) := HX1'.out i x (by rw [List.getElem?_eq_getElem hil, hxe])
        have e2 : w3.cell? ⟨g2, i, none⟩ = some (.string x) := HX2'.out i x (by rw [List.getElem?_eq_getElem hil, hxe])
        have b0 : (0 : Int) ≤ (i : Int) := by omega
        have b1 : (i : Int) < (q : Int) := by omega
        have q1 : (x.toList == x.toList) = true := by simp
        clear hil hxe
        go_wp2
        go_quiet (fail)
        go_wp2
        go_roundw
        case rel => exact ⟨i + 1, _, by go_num, by omega, rfl⟩
        case measure => simp [intOf]; omega
      · have d1 : decide ((i : Int) < (q : Int)) = false := by simp; omega
        have HJ' := hideIt (HJ.out _ _ (w3.drewN nq) (HR3.out.below (below_drewN w3 nq)))
        have HBD := hideIt (below_drewN w3 nq)
        have q1 : (t.toList == t.toList) = true := by simp
        go_wp2_with (first | (go_at_call 6; refine (HF.out _).mono ?_; rintro e wx ⟨rfl, hwx⟩; obtain rfl := hwx.symm) | (go_at_call 9; refine HJ'.out.mono ?_; rintro e w4 ⟨rfl, hb4⟩))
        go_ret
        exact ⟨rfl, below2 hb1 (below2 hb2 (below2 hb3 (below2 HBD.out hb4)))⟩
  · have HU' : Hid (∀ w e w', SplitTo w t e w' → e = .returned (.tuple #[.slice none 0 0, .int .i64 E]) ∧ Below w.heap.size w w') := hideIt (fun w e w' h => by
      obtain ⟨v, e1, hb, hn, _⟩ := HU.out w e w' h
      rw [hn h0] at e1
      exact ⟨e1, hb⟩)
    have q0 : (E != 0) = true := by simpa using h0
    have q1 : (E != E) = false := by simp
    clear HU HJ hc
    go_enter Tryd.func3, Tryd.ntmps3
    go_wp2_with (first | (go_at_call 6; refine (HF.out _).mono ?_; rintro e wx ⟨rfl, hwx⟩; obtain rfl := hwx.symm) | (go_at_call 5; refine HS.out.mono ?_; rintro e w1 he1; obtain ⟨rfl, hb1⟩ := HU'.out _ _ _ he1; clear he1) | (go_at_call 7; refine (HR.out _).mono ?_; rintro e w2 he2; obtain ⟨rfl, hb2⟩ := HU'.out _ _ _ he2; clear he2) | (go_at_call 8; refine (HA.out _).mono ?_; rintro e w3 ⟨rfl, hb3⟩))
    go_loop [7] (fun u => u = .int .i64 0 ∨ u = .int .i64 0) (fun u => (intOf u).toNat)
    case atStart => exact .inl rfl
    case round =>
      obtain rfl : _ = Value.int .i64 0 := by rcases hrel with h | h <;> exact h
      go_wp2
      go_ret
      exact ⟨rfl, below2 hb1 (below2 hb2 hb3)⟩
end Go.Proofs.YtgbmfhbodfmpbaaDoor
