/- Pressed bytes, whatever they are: a repetition, walked. -/
import Derived.Test.YtjiigdjopcegeaaDoorLdSpn
import Derived.BigQuiet
namespace Go.Proofs.YtjiigdjopcegeaaDoor.Ld
open Cb
open Go.RowKit
set_option maxHeartbeats 1600000 in
set_option maxRecDepth 100000 in
theorem again_gen (N g left : Nat) (T L : List UInt8) (v : Value) (w0 w : World) (h : SpMem N g T v (bs L) w0 w) (hTl : T.length + left ≤ 1048576) (hL : L.length ≤ 100000000) :
    Calls Tryd.prog 65 #[.pointer (some ⟨g, 0, none⟩), .int .i64 (left : Int)] w fun e w' => AloTo N g (Lz.aga left T L) w0 e w' := by
  obtain ⟨i0, hi0, hz0, hz1, hz2⟩ := info_parts infoB
  have HTO : Hid (∀ e w', AloTo N g (Lz.aga left T L) w0 e w' ↔ e = .returned (.int .i64 ((Lz.aga left T L).1 : Int)) ∧ Below N w0 w' ∧ ((Lz.aga left T L).1 = 0 → ∃ v', SpMem N g (Lz.aga left T L).2.1 v' (bs (Lz.aga left T L).2.2) w0 w')) := hideIt (fun _ _ => Iff.rfl)
  obtain ⟨i, hi⟩ : ∃ i, T.length = i := ⟨_, rfl⟩
  have HN := hideIt (both_gen g L v w h.blk hL)
  have hs1 := h.rest (bs (Lz.nq L).2.1)
  have hs2 := hs1.rest (bs (Lz.nq (Lz.nq L).2.1).2.1)
  have ew1 : nmW g w L = w.setCell ⟨g, 1, none⟩ (.string (bs (Lz.nq L).2.1)) := rfl
  obtain ⟨w1, hw1⟩ : ∃ w1, w.setCell ⟨g, 1, none⟩ (.string (bs (Lz.nq L).2.1)) = w1 := ⟨_, rfl⟩
  rw [hw1] at hs1 hs2 ew1
  have ew2 : nmW g w1 (Lz.nq L).2.1 = w1.setCell ⟨g, 1, none⟩ (.string (bs (Lz.nq (Lz.nq L).2.1).2.1)) := rfl
  obtain ⟨w2, hw2⟩ : ∃ w2, w1.setCell ⟨g, 1, none⟩ (.string (bs (Lz.nq (Lz.nq L).2.1).2.1)) = w2 := ⟨_, rfl⟩
  rw [hw2] at hs2 ew2
  unfold bam bamW at HN
  rw [ew1, ew2] at HN
  unfold Lz.aga at HTO ⊢
  obtain ⟨b, R1, z1, hx⟩ : ∃ n R1 z, Lz.nq L = (n, R1, z) := ⟨_, _, _, rfl⟩
  obtain ⟨q, R2, z2, hy⟩ : ∃ n R2 z, Lz.nq R1 = (n, R2, z) := ⟨_, _, _, rfl⟩
  rw [hx] at HN hs1 hs2 HTO ⊢
  simp only at HN hs1 hs2 HTO ⊢
  rw [hy] at HN hs2 HTO ⊢
  simp only at HN hs2 HTO ⊢
  rw [hi] at HTO ⊢
  obtain ⟨AG, HAG'⟩ : ∃ AG, (if z1 ≠ 0 then (z1, T, L) else if z2 ≠ 0 then (z2, T, L) else if b = 0 ∨ 32768 < b ∨ i < b then (6, T, L) else if left < q + 4 then (6, T, L) else (0, Lz.rep b (q + 4) T, R2)) = AG := ⟨_, rfl⟩
  rw [HAG'] at HTO ⊢
  have HAG := hideIt HAG'.symm
  have HB1 := hideIt hs1.below
  have HB2 := hideIt hs2.below
  have c2 := spc0 hs2.blk
  obtain ⟨sa, sc, hsv⟩ := slice_of h.own
  rw [hi] at hsv
  have iI : (i : Int) ≤ 1048576 := by omega
  have lI : (left : Int) ≤ 1048576 := by omega
  by_cases hz : z1 = 0
  · subst hz
    rw [if_neg (by simp)] at HAG
    rw [if_neg (by simp), if_neg (by simp)] at HN
    simp only at HN
    by_cases hq0 : z2 = 0
    · subst hq0
      rw [if_neg (by simp)] at HAG
      obtain ⟨mn, hmn⟩ : ∃ mn, min 32768 i = mn := ⟨_, rfl⟩
      have hmi : (if (i : Int) < 32768 then (i : Int) else 32768) = (mn : Int) := by split <;> omega
      have mw : IntKind.u64.wrap (mn : Int) = (mn : Int) := by simp [IntKind.wrap, IntKind.bits, IntKind.signed]; omega
      by_cases hb0 : b = 0 ∨ 32768 < b ∨ i < b
      · rw [if_pos hb0] at HAG
        by_cases hb1 : b = 0
        · subst hb1
          clear hs2 hs1 h hx hy hw1 hw2 ew1 ew2 hi hb0 HAG' hmn
          subst hsv
          go_enter Tryd.func65, Tryd.ntmps65
          go_wp2_with (first | (go_at_call 71; refine HN.out.mono ?_; rintro e wx ⟨rfl, hwx⟩; obtain rfl := hwx.symm))
          go_ret
          exact (HTO.out _ _).2 ⟨by rw [HAG.out] <;> rfl, HB2.out, fun h => by rw [HAG.out] at h; cases h⟩
        · have bI : ¬ (b : Int) = 0 := by omega
          have bI2 : ((b : Int) == 0) = false := by simpa using bI
          have bI3 : (mn : Int) < (b : Int) := by omega
          clear hs2 hs1 h hx hy hw1 hw2 ew1 ew2 hi hb0 HAG' hmn
          subst hsv
          go_enter Tryd.func65, Tryd.ntmps65
          go_wp2_with (first | (go_at_call 71; refine HN.out.mono ?_; rintro e wx ⟨rfl, hwx⟩; obtain rfl := hwx.symm))
          go_ret
          exact (HTO.out _ _).2 ⟨by rw [HAG.out] <;> rfl, HB2.out, fun h => by rw [HAG.out] at h; cases h⟩
      rw [if_neg hb0] at HAG
      have bI : ¬ (b : Int) = 0 := by omega
      have bI2 : ((b : Int) == 0) = false := by simpa using bI
      have bI6 : ¬ (mn : Int) < (b : Int) := by omega
      have bI8 : ¬ mn < b := by omega
      have bI9 : decide (mn < b) = false := decide_eq_false bI8
      have bI7 : (b : Int) ≤ 32768 := by omega
      by_cases hq4 : left < q + 4
      · rw [if_pos hq4] at HAG
        by_cases hl4 : left < 4
        · have lI3 : (left : Int) < 4 := by omega
          have lI4 : decide ((left : Int) < 4) = true := decide_eq_true lI3
          clear hs2 hs1 h hx hy hw1 hw2 ew1 ew2 hi hb0 HAG' hmn hq4
          subst hsv
          go_enter Tryd.func65, Tryd.ntmps65
          go_wp2_with (first | (go_at_call 71; refine HN.out.mono ?_; rintro e wx ⟨rfl, hwx⟩; obtain rfl := hwx.symm))
          go_ret
          exact (HTO.out _ _).2 ⟨by rw [HAG.out] <;> rfl, HB2.out, fun h => by rw [HAG.out] at h; cases h⟩
        · have lI3 : ¬ (left : Int) < 4 := by omega
          have lI4 : decide ((left : Int) < 4) = false := decide_eq_false lI3
          obtain ⟨l4, hl⟩ : ∃ l4, left - 4 = l4 := ⟨_, rfl⟩
          have lI5 : (left : Int) - 4 = (l4 : Int) := by omega
          have lw : IntKind.u64.wrap (l4 : Int) = (l4 : Int) := by simp [IntKind.wrap, IntKind.bits, IntKind.signed]; omega
          have lI6 : (l4 : Int) < (q : Int) := by omega
          have lI7 : l4 < q := by omega
          have lI8 : decide (l4 < q) = true := decide_eq_true lI7
          clear hs2 hs1 h hx hy hw1 hw2 ew1 ew2 hi hb0 HAG' hmn hq4 hl
          subst hsv
          go_enter Tryd.func65, Tryd.ntmps65
          go_wp2_with (first | (go_at_call 71; refine HN.out.mono ?_; rintro e wx ⟨rfl, hwx⟩; obtain rfl := hwx.symm))
          go_ret
          exact (HTO.out _ _).2 ⟨by rw [HAG.out] <;> rfl, HB2.out, fun h => by rw [HAG.out] at h; cases h⟩
      · rw [if_neg hq4] at HAG
        have lI3 : ¬ (left : Int) < 4 := by omega
        have lI4 : decide ((left : Int) < 4) = false := decide_eq_false lI3
        obtain ⟨l4, hl⟩ : ∃ l4, left - 4 = l4 := ⟨_, rfl⟩
        have lI5 : (left : Int) - 4 = (l4 : Int) := by omega
        have lw : IntKind.u64.wrap (l4 : Int) = (l4 : Int) := by simp [IntKind.wrap, IntKind.bits, IntKind.signed]; omega
        have lI6 : ¬ (l4 : Int) < (q : Int) := by omega
        have lI7 : ¬ l4 < q := by omega
        have lI8 : decide (l4 < q) = false := decide_eq_false lI7
        obtain ⟨c, hc⟩ : ∃ c, q + 4 = c := ⟨_, rfl⟩
        rw [hc] at HAG
        have c1 : (q : Int) + 4 = (c : Int) := by omega
        have cI : (c : Int) ≤ 1048576 := by omega
        have qI : (q : Int) ≤ 1048576 := by omega
        have hcl : i + c ≤ 1048576 := by omega
        have hbi : 1 ≤ b ∧ b ≤ i := by omega
        have HS2 := hideIt hs2
        have HLN : Hid (∀ j, (Lz.rep b j T).length = i + j) := hideIt (fun j => by rw [Lz.rep_len, hi])
        obtain ⟨r2, hr2⟩ : ∃ r, bs R2 = r := ⟨_, rfl⟩
        rw [hr2] at HS2
        have HR2 := hideIt hr2
        clear hs2 hs1 h hx hy hw1 hw2 ew1 ew2 hi hr2 hc HAG' hmn hb0 hl
        subst hsv
        go_enter Tryd.func65, Tryd.ntmps65
        go_wp2_with (first | (go_at_call 71; refine HN.out.mono ?_; rintro e wx ⟨rfl, hwx⟩; obtain rfl := hwx.symm))
        go_loopw [41] (fun t wr => ∃ (j : Nat) (v' : Value), j ≤ c ∧ t = .int .u64 j ∧ SpMem N g (Lz.rep b j T) v' r2 w0 wr) (fun t _ => c - (intOf t).toNat)
        case atStart => exact ⟨0, _, by omega, rfl, HS2.out⟩
        case round =>
          obtain ⟨j, v', hj, rfl, hr⟩ := hrel
          clear HS2 HN c2 bI6 bI8 bI9 lI3 lI4 lI5 lI6 lI7 lI8
          by_cases hlt : j < c
          · have hid : decide ((j : Int) < (c : Int)) = true := by simp; omega
            have hln := HLN.out j
            obtain ⟨gt, cap, hv⟩ := own_some hr.own (by rw [hln]; omega)
            rw [hln] at hv
            obtain ⟨n, hn⟩ : ∃ n, i + j = n := ⟨_, rfl⟩
            obtain ⟨p, hp⟩ : ∃ p, n - b = p := ⟨_, rfl⟩
            rw [hn] at hln hv
            have hpn : p < (Lz.rep b j T).length := by rw [hln]; omega
            obtain ⟨x, hpx⟩ : ∃ x, (Lz.rep b j T)[p] = x := ⟨_, rfl⟩
            have HRP : Hid (Lz.rep b (j + 1) T = Lz.rep b j T ++ [x]) := hideIt (by
              rw [Lz.rep, hln, hp, List.getD, List.getElem?_eq_getElem hpn, hpx]
              rfl)
            subst hv
            have own := hr.own
            rw [hln] at own
            have ct := own.cellAt p (by rw [Nat.mul_one]; omega)
            rw [u8s_at _ _ hpn, hpx] at ct
            have d0 := spc0 hr.blk
            have f0 := spf 0 hr.blk
            have hgs : g < wr.heap.size := (Array.getElem?_eq_some_iff.1 hr.blk).1
            have d1 : (wr.alloc (.cells #[.int .u8 (x.toNat : Int)] 5)).cell? ⟨g, 0, none⟩ = some (.slice (some ⟨gt, 0, none⟩) n cap) := spc0 (by rw [Below.heap_alloc _ _ _ hgs]; exact hr.blk)
            have n1 : (n : Int) - (b : Int) = (p : Int) := by omega
            have p1 : (p : Int) < (n : Int) := by omega
            have bw : IntKind.i64.wrap (b : Int) = (b : Int) := by rw [IntKind.wrap_i64]; omega
            have nI : (n : Int) ≤ 1048576 := by omega
            have pw : IntKind.i64.wrap (p : Int) = (p : Int) := by rw [IntKind.wrap_i64]; omega
            have HSZ := hideIt hr.size
            obtain ⟨U, hU⟩ : ∃ U, Lz.rep b j T = U := ⟨_, rfl⟩
            rw [hU] at HRP hr own hln
            have HX : Hid (∀ (k : Nat) (v' : Value) (o : Obj) (w3 : World), w3.ownsRow N 5 1 v' (n + 1) (u8s U ++ u8s [x]) → ((wr.drewN k).alloc o).grownBy w3 (some gt) → w3.heap[g]? = some (.cells #[.slice (some ⟨gt, 0, none⟩) n cap, .string r2] 99 (0, 0)) ∧ SpMem N g (Lz.rep b (j + 1) T) v' r2 w0 (w3.setCell ⟨g, 0, none⟩ v')) := by
              refine hideIt (fun k v' o w3 h2 hg2 => ?_)
              have := hr.text (w1 := (wr.drewN k).alloc o) (M := [x]) (n := n + 1) ((Below.refl _ _).trans (((show Below wr.heap.size wr (wr.drewN k) from ⟨rfl, rfl, rfl, Nat.le_refl _, fun _ _ => rfl⟩)).alloc (Nat.le_refl _) o)) (by rw [hln]; rfl) h2 hg2
              rw [HRP.out]
              exact this
            clear hr hn hp hpn hpx hU HRP hln
            go_wp2
            go_region_law (refine step_append_own (by rfl) _ _ 42 (by rfl) N 5 i0 (.int .u8 0) 1 1 Tryd.underlying42 hi0 hz0 hz1 hz2 rfl (by decide) _ n (u8s U) (by rfl) (own.drew.alloc _) ⟨wr.heap.size, 0, none⟩ 1 1 (u8s [x]) (by rfl) rfl (one_cellN x _ rfl) (u8s_one _) (by unfold maxLen; omega) (by omega) (by have := HSZ.out; simp; omega) ?_; intro v' w3 hown2 hg2; obtain ⟨va, vc, rfl⟩ := slice_of hown2; obtain ⟨t1, t2⟩ := HX.out 1 _ _ _ hown2 hg2; have s2 := spc0 t1; have s3 := spf 0 t1; have T2 := hideIt t2; clear t1 t2)
            all_goals go_wp2
            all_goals go_roundw
            all_goals first | exact ⟨j + 1, _, by omega, by go_num, T2.out⟩ | (simp [intOf]; omega)
          · have hid : decide ((j : Int) < (c : Int)) = false := by simp; omega
            obtain rfl : j = c := by omega
            have HR := hideIt hr
            clear hr
            go_wp2
            go_ret
            exact (HTO.out _ _).2 ⟨by rw [HAG.out] <;> rfl, HR.out.below, fun _ => by rw [HAG.out]; simp only; rw [HR2.out]; exact ⟨_, HR.out⟩⟩
    · rw [if_pos hq0] at HAG
      have z1' : ¬ (z2 : Int) = 0 := by omega
      have z2' : ((z2 : Int) != 0) = true := by simpa using z1'
      have z3' : ((z2 : Int) == 0) = false := by simpa using z1'
      clear hs2 hs1 h hx hy hw1 hw2 ew1 ew2 hi HAG'
      subst hsv
      go_enter Tryd.func65, Tryd.ntmps65
      go_wp2_with (first | (go_at_call 71; refine HN.out.mono ?_; rintro e wx ⟨rfl, hwx⟩; obtain rfl := hwx.symm))
      go_ret
      exact (HTO.out _ _).2 ⟨by rw [HAG.out] <;> rfl, HB2.out, fun h => by rw [HAG.out] at h; exact absurd h hq0⟩
  · rw [if_pos hz] at HAG
    rw [if_pos hz, if_pos hz] at HN
    simp only at HN
    have z1' : ¬ (z1 : Int) = 0 := by omega
    have z2' : ((z1 : Int) != 0) = true := by simpa using z1'
    have z3' : ((z1 : Int) == 0) = false := by simpa using z1'
    clear hs2 hs1 h hx hy hw1 hw2 ew1 ew2 hi HAG'
    subst hsv
    go_enter Tryd.func65, Tryd.ntmps65
    go_wp2_with (first | (go_at_call 71; refine HN.out.mono ?_; rintro e wx ⟨rfl, hwx⟩; obtain rfl := hwx.symm))
    go_ret
    exact (HTO.out _ _).2 ⟨by rw [HAG.out] <;> rfl, HB1.out, fun h => by rw [HAG.out] at h; exact absurd h hz⟩
end Go.Proofs.YtjiigdjopcegeaaDoor.Ld
