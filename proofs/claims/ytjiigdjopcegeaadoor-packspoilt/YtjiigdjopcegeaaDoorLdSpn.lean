/- Pressed bytes, whatever they are: a number, bytes alone, walked. -/
import Derived.Test.YtjiigdjopcegeaaDoorLdSpl
namespace Go.Proofs.YtjiigdjopcegeaaDoor.Ld
open Cb
open Go.RowKit
namespace Lz
theorem unL_err : ∀ (k i c : Nat) (l : List UInt8), (Cd.unL k i c l).2.2 ≠ 0 → (Cd.unL k i c l).1 = 0 ∧ (Cd.unL k i c l).2.1 = 0
  | 0, i, c, l, _ => ⟨rfl, rfl⟩
  | k + 1, i, c, [], _ => ⟨rfl, rfl⟩
  | k + 1, i, c, b :: t, h => by
    rw [Cd.unL] at h ⊢
    split
    · rename_i hb
      rw [if_pos hb] at h
      exact absurd rfl h
    · rename_i hb
      rw [if_neg hb] at h
      exact unL_err k _ _ t h
theorem unnum_k (L : List UInt8) : (Cd.unnum L).2.1 ≤ L.length := by
  by_cases h : (Cd.unnum L).2.2 = 0
  · exact (Cd.unnum_form (n := (Cd.unnum L).1) (j := (Cd.unnum L).2.1) (Prod.ext rfl (Prod.ext rfl h))).2
  · have := (unL_err 9 0 0 L h).2
    have e : (Cd.unnum L).2.1 = 0 := this
    omega
end Lz
/-- The world behind a number's reading. -/
def nmW (g : Nat) (w : World) (L : List UInt8) : World := w.setCell ⟨g, 1, none⟩ (.string (bs (Lz.nq L).2.1))
set_option maxHeartbeats 400000 in
set_option maxRecDepth 100000 in
theorem number_gen (g : Nat) (L : List UInt8) (v : Value) (w : World) (hblk : w.heap[g]? = some (.cells #[v, .string (bs L)] 99 (0, 0))) (hL : L.length ≤ 100000000) :
    Calls Tryd.prog 70 #[.pointer (some ⟨g, 0, none⟩)] w fun e w' => e = .returned (.tuple #[.int .u64 ((Lz.nq L).1 : Int), .int .i64 ((Lz.nq L).2.2 : Int)]) ∧ w' = nmW g w L := by
  have c1 := spc1 hblk
  have f1 := spf 1 hblk
  have HU := hideIt (unnum_any (bs L) w (by rw [bs_size]; exact hL))
  rw [bs_list] at HU
  have hk := Lz.unnum_k L
  have HNM : Hid (nmW g w L = w.setCell ⟨g, 1, none⟩ (.string (bs (L.drop (Cd.unnum L).2.1)))) := hideIt rfl
  have e0 : Lz.nq L = ((Cd.unnum L).1, L.drop (Cd.unnum L).2.1, (Cd.unnum L).2.2) := rfl
  rw [HNM.out, e0]
  clear HNM e0
  obtain ⟨n, k, z, hu⟩ : ∃ n k z, Cd.unnum L = (n, k, z) := ⟨_, _, _, rfl⟩
  rw [hu] at HU hk ⊢
  simp only at hk ⊢
  have k1 : (k : Int) ≤ ((bs L).size : Int) := by rw [bs_size]; omega
  have hex : (bs L).extract k (bs L).size = bs (L.drop k) := by
    apply ByteArray.ext
    apply Array.toList_inj.1
    simp [bs, List.extract_eq_take_drop, ByteArray.size]
    exact List.take_of_length_le (by simp)
  obtain ⟨r, hr⟩ : ∃ r, bs L = r := ⟨_, rfl⟩
  rw [hr] at HU c1 hex k1
  obtain ⟨r1, hr1⟩ : ∃ r, bs (L.drop k) = r := ⟨_, rfl⟩
  rw [hr1] at hex ⊢
  clear hblk hu hk hr hr1
  go_enter Tryd.func70, Tryd.ntmps70
  go_wp2_with (first | (go_at_call 25; refine HU.out.mono ?_; rintro e w1 ⟨rfl, hw1⟩; obtain rfl := hw1.symm; simp only [unV]))
  go_ret2
  exact ⟨rfl, rfl⟩
set_option maxHeartbeats 400000 in
set_option maxRecDepth 100000 in
theorem numberTo_gen (g most : Nat) (L : List UInt8) (v : Value) (w : World) (hblk : w.heap[g]? = some (.cells #[v, .string (bs L)] 99 (0, 0))) (hm : most ≤ 100000000) (hL : L.length ≤ 100000000) :
    Calls Tryd.prog 63 #[.pointer (some ⟨g, 0, none⟩), .int .i64 (most : Int)] w fun e w' => e = .returned (.tuple #[.int .i64 ((Lz.nm most L).1 : Int), .int .i64 ((Lz.nm most L).2.2 : Int)]) ∧ w' = nmW g w L := by
  have HN := hideIt (number_gen g L v w hblk hL)
  obtain ⟨W, hW⟩ : ∃ W, nmW g w L = W := ⟨_, rfl⟩
  rw [hW] at HN ⊢
  obtain ⟨n, k, z, hu⟩ : ∃ n k z, Cd.unnum L = (n, k, z) := ⟨_, _, _, rfl⟩
  have e0 : Lz.nq L = (n, L.drop k, z) := by unfold Lz.nq; rw [hu]
  have e1 : Lz.nm most L = if z ≠ 0 then (0, L, z) else if (most : Int) < (n : Int) then (0, L, 6) else (n, L.drop k, 0) := by unfold Lz.nm; rw [hu]
  rw [e0] at HN
  rw [e1]
  simp only at HN
  have mw : IntKind.u64.wrap (most : Int) = (most : Int) := by simp [IntKind.wrap, IntKind.bits, IntKind.signed]; omega
  have mI : (most : Int) ≤ 100000000 := by omega
  clear hu e0 e1 hW hblk
  by_cases hz : z = 0
  · subst hz
    rw [if_neg (by simp)]
    by_cases hn : (most : Int) < (n : Int)
    · rw [if_pos hn]
      go_enter Tryd.func63, Tryd.ntmps63
      go_wp2_with (first | (go_at_call 70; refine HN.out.mono ?_; rintro e w1 ⟨rfl, hw1⟩; obtain rfl := hw1.symm))
      go_ret2
      exact ⟨rfl, rfl⟩
    · rw [if_neg hn]
      have n2 : (n : Int) ≤ 100000000 := by omega
      go_enter Tryd.func63, Tryd.ntmps63
      go_wp2_with (first | (go_at_call 70; refine HN.out.mono ?_; rintro e w1 ⟨rfl, hw1⟩; obtain rfl := hw1.symm))
      go_ret2
      exact ⟨rfl, rfl⟩
  · rw [if_pos hz]
    have z1 : ¬ (z : Int) = 0 := by omega
    have z2 : ((z : Int) != 0) = true := by simpa using z1
    have z3 : ((z : Int) == 0) = false := by simpa using z1
    go_enter Tryd.func63, Tryd.ntmps63
    go_wp2_with (first | (go_at_call 70; refine HN.out.mono ?_; rintro e w1 ⟨rfl, hw1⟩; obtain rfl := hw1.symm))
    go_ret2
    exact ⟨rfl, rfl⟩
/-- Both numbers of a repetition. -/
def bam (L : List UInt8) : Nat × Nat × Nat := if (Lz.nq L).2.2 ≠ 0 then (0, 0, (Lz.nq L).2.2) else ((Lz.nq L).1, (Lz.nq (Lz.nq L).2.1).1, (Lz.nq (Lz.nq L).2.1).2.2)
def bamW (g : Nat) (w : World) (L : List UInt8) : World := if (Lz.nq L).2.2 ≠ 0 then nmW g w L else nmW g (nmW g w L) (Lz.nq L).2.1
set_option maxHeartbeats 400000 in
set_option maxRecDepth 100000 in
theorem both_gen (g : Nat) (L : List UInt8) (v : Value) (w : World) (hblk : w.heap[g]? = some (.cells #[v, .string (bs L)] 99 (0, 0))) (hL : L.length ≤ 100000000) :
    Calls Tryd.prog 71 #[.pointer (some ⟨g, 0, none⟩)] w fun e w' => e = .returned (.tuple #[.int .u64 ((bam L).1 : Int), .int .u64 ((bam L).2.1 : Int), .int .i64 ((bam L).2.2 : Int)]) ∧ w' = bamW g w L := by
  have HN := hideIt (number_gen g L v w hblk hL)
  obtain ⟨W, hW⟩ : ∃ W, nmW g w L = W := ⟨_, rfl⟩
  have hb1 : W.heap[g]? = some (.cells #[v, .string (bs (Lz.nq L).2.1)] 99 (0, 0)) := by rw [← hW, nmW, heap_setCell_same w g 1 _ _ _ hblk]; rfl
  have hl1 : (Lz.nq L).2.1.length ≤ L.length := by unfold Lz.nq; simp
  have HN2 := hideIt (number_gen g (Lz.nq L).2.1 v W hb1 (by omega))
  obtain ⟨W2, hW2⟩ : ∃ W2, nmW g W (Lz.nq L).2.1 = W2 := ⟨_, rfl⟩
  unfold bam bamW
  rw [hW] at HN ⊢
  rw [hW2] at HN2 ⊢
  obtain ⟨n, R, z, hu⟩ : ∃ n k z, Lz.nq L = (n, k, z) := ⟨_, _, _, rfl⟩
  rw [hu] at HN HN2 ⊢
  simp only at HN HN2 ⊢
  obtain ⟨n2, R2, z2, hu2⟩ : ∃ n k z, Lz.nq R = (n, k, z) := ⟨_, _, _, rfl⟩
  rw [hu2] at HN2 ⊢
  simp only at HN2 ⊢
  clear hu hu2 hW hW2 hblk hb1 hl1
  by_cases hz : z = 0
  · subst hz
    rw [if_neg (by simp), if_neg (by simp)]
    go_enter Tryd.func71, Tryd.ntmps71
    go_wp2_with (first | (go_at_call 70; refine HN.out.mono ?_; rintro e w1 ⟨rfl, hw1⟩; obtain rfl := hw1.symm; clear HN) | (go_at_call 70; refine HN2.out.mono ?_; rintro e w2 ⟨rfl, hw2⟩; obtain rfl := hw2.symm; clear HN2))
    (try simp only [Exit.inBlock, Exit.then])
    refine bodyPost_ret (v := .tuple #[.int .u64 (n : Int), .int .u64 (n2 : Int), .int .i64 (z2 : Int)]) ?_ rfl ⟨rfl, rfl⟩
    rw [results_tmp3 rfl]
    rfl
  · rw [if_pos hz, if_pos hz]
    have z1 : ¬ (z : Int) = 0 := by omega
    have z2 : ((z : Int) != 0) = true := by simpa using z1
    have z3 : ((z : Int) == 0) = false := by simpa using z1
    go_enter Tryd.func71, Tryd.ntmps71
    go_wp2_with (first | (go_at_call 70; refine HN.out.mono ?_; rintro e w1 ⟨rfl, hw1⟩; obtain rfl := hw1.symm))
    (try simp only [Exit.inBlock, Exit.then])
    refine bodyPost_ret (v := .tuple #[.int .u64 0, .int .u64 0, .int .i64 (z : Int)]) ?_ rfl ⟨rfl, rfl⟩
    rw [results_tmp3 rfl]
    rfl
/-- What alone, or again, leaves. -/
def AloTo (N g : Nat) (x : Nat × List UInt8 × List UInt8) (w0 : World) (e : Ending) (w' : World) : Prop := e = .returned (.int .i64 (x.1 : Int)) ∧ Below N w0 w' ∧ (x.1 = 0 → ∃ v', SpMem N g x.2.1 v' (bs x.2.2) w0 w')
set_option maxHeartbeats 800000 in
set_option maxRecDepth 100000 in
theorem alone_gen (N g left : Nat) (T L : List UInt8) (v : Value) (w0 w : World) (h : SpMem N g T v (bs L) w0 w) (hl : left ≤ 1048576) (hL : L.length ≤ 100000000) (hT : T.length ≤ 1048576) :
    Calls Tryd.prog 64 #[.pointer (some ⟨g, 0, none⟩), .int .i64 (left : Int)] w fun e w' => AloTo N g (Lz.alo left T L) w0 e w' := by
  obtain ⟨i0, hi0, hz0, hz1, hz2⟩ := info_parts infoB
  have HTO : Hid (∀ e w', AloTo N g (Lz.alo left T L) w0 e w' ↔ e = .returned (.int .i64 ((Lz.alo left T L).1 : Int)) ∧ Below N w0 w' ∧ ((Lz.alo left T L).1 = 0 → ∃ v', SpMem N g (Lz.alo left T L).2.1 v' (bs (Lz.alo left T L).2.2) w0 w')) := hideIt (fun _ _ => Iff.rfl)
  have HN := hideIt (numberTo_gen g left L v w h.blk (by omega) hL)
  have hln := Lz.nm_len (left : Int) L
  obtain ⟨n, R1, z, hx⟩ : ∃ n R1 z, Lz.nm (left : Int) L = (n, R1, z) := ⟨_, _, _, rfl⟩
  have HAL : Hid (Lz.alo left T L = if z ≠ 0 then (z, T, L) else if R1.length < n then (4, T, L) else (0, T ++ R1.take n, R1.drop n)) := hideIt (by unfold Lz.alo; rw [hx])
  rw [hx] at HN hln
  by_cases hz : z = 0
  · subst hz
    have hnl := (Lz.nm_ok hx).1
    rw [if_neg (by simp)] at HAL
    have e1 : nmW g w L = w.setCell ⟨g, 1, none⟩ (.string (bs R1)) := by unfold nmW; rw [(Lz.nm_nq hx).1]
    rw [e1] at HN
    have hs1 := h.rest (bs R1)
    obtain ⟨w1, hw1⟩ : ∃ w1, w.setCell ⟨g, 1, none⟩ (.string (bs R1)) = w1 := ⟨_, rfl⟩
    rw [hw1] at HN hs1
    have c0 := spc0 hs1.blk
    have c1 := spc1 hs1.blk
    have f0 := spf 0 hs1.blk
    have rs : (bs R1).size = R1.length := bs_size R1
    have n3 : (n : Int) ≤ 1048576 := by omega
    obtain ⟨sa, sc, hsv⟩ := slice_of h.own
    by_cases hn : R1.length < n
    · rw [if_pos hn] at HAL
      have HB := hideIt hs1.below
      have m1 : ((bs R1).size : Int) < (n : Int) := by omega
      obtain ⟨r1, hr1⟩ : ∃ r, bs R1 = r := ⟨_, rfl⟩
      rw [hr1] at c1 m1
      clear hs1 h hx hw1 hr1 rs hn
      subst hsv
      go_enter Tryd.func64, Tryd.ntmps64
      go_wp2_with (first | (go_at_call 63; refine HN.out.mono ?_; rintro e wx ⟨rfl, hwx⟩; obtain rfl := hwx.symm))
      go_ret
      exact (HTO.out _ _).2 ⟨by rw [HAL.out] <;> rfl, HB.out, fun h => by rw [HAL.out] at h; cases h⟩
    · rw [if_neg hn] at HAL
      have m1 : ¬ ((bs R1).size : Int) < (n : Int) := by omega
      have m2 : (n : Int) ≤ ((bs R1).size : Int) := by omega
      obtain ⟨E, hE⟩ : ∃ E, (bs R1).extract 0 n = E := ⟨_, rfl⟩
      have hEd : E.data.toList = R1.take n := by rw [← hE, data_mid, List.drop_zero, Nat.sub_zero, bs_list]
      have hEs : E.size = n := by rw [← str_len, hEd, List.length_take]; omega
      obtain ⟨F, hF⟩ : ∃ F, (bs R1).extract n (bs R1).size = F := ⟨_, rfl⟩
      have hFd : F = bs (R1.drop n) := by rw [← bs_data F, ← hF, data_rest, bs_list]
      have HH := hideIt hs1
      have htk : (R1.take n).length = n := by rw [List.length_take]; omega
      have HX : Hid (∀ (q m : Nat) (v' : Value) (w2 : World), m = T.length + E.size → w2.ownsRow N 5 1 v' m (u8s T ++ Lib.strCells E) → (w1.drewN q).grownBy w2 v.ownBlock → w2.heap[g]? = some (.cells #[v, .string (bs R1)] 99 (0, 0)) ∧ SpMem N g (T ++ R1.take n) v' (bs R1) w0 (w2.setCell ⟨g, 0, none⟩ v')) := by
        refine hideIt (fun q m v' w2 hn2 h2 hg2 => ?_)
        rw [str_u8s, hEd] at h2
        exact HH.out.text (w1 := w1.drewN q) ⟨rfl, rfl, rfl, Nat.le_refl _, fun _ _ => rfl⟩ (by rw [hn2, hEs, htk]) h2 hg2
      have HFD := hideIt hFd
      have tE : T.length + E.size ≤ 2097152 := by omega
      obtain ⟨r1, hr1⟩ : ∃ r, bs R1 = r := ⟨_, rfl⟩
      rw [hr1] at c1 m1 m2 hE hF HX HH
      clear hs1 h hx hw1 hEd hEs hFd rs hr1 htk hn
      subst hsv
      go_enter Tryd.func64, Tryd.ntmps64
      go_wp2_with (first | (go_at_call 63; refine HN.out.mono ?_; rintro e wx ⟨rfl, hwx⟩; obtain rfl := hwx.symm))
      go_region_law (refine step_append_str (by rfl) _ _ 42 9 (by rfl) N 5 i0 Tryd.underlying42 Tryd.underlying9 hi0 hz0 hz1 hz2 _ T.length (u8s T) (by rfl) HH.out.own.drew E (by rfl) (by unfold maxLen; omega) (by omega) HH.out.size ?_; intro v' w2 hown2 hg2; obtain ⟨va, vc, rfl⟩ := slice_of hown2; obtain ⟨t1, t2⟩ := HX.out 1 _ _ _ rfl hown2 hg2; have s2 := spc0 t1; have s3 := spf 0 t1; have s4 := spc1 t2.blk; have s5 := spf 1 t2.blk; have T2 := hideIt t2; clear t1 t2)
      all_goals go_wp2
      all_goals go_ret
      all_goals exact (HTO.out _ _).2 ⟨by rw [HAL.out] <;> rfl, (T2.out.rest F).below, fun _ => by rw [HAL.out]; simp only; rw [← HFD.out]; exact ⟨_, T2.out.rest F⟩⟩
  · rw [if_pos hz] at HAL
    have HB1 := hideIt (h.rest (bs (Lz.nq L).2.1)).below
    have e1 : nmW g w L = w.setCell ⟨g, 1, none⟩ (.string (bs (Lz.nq L).2.1)) := rfl
    rw [e1] at HN
    obtain ⟨w1, hw1⟩ : ∃ w1, w.setCell ⟨g, 1, none⟩ (.string (bs (Lz.nq L).2.1)) = w1 := ⟨_, rfl⟩
    rw [hw1] at HN HB1
    have z1 : ¬ (z : Int) = 0 := by omega
    have z2 : ((z : Int) != 0) = true := by simpa using z1
    have z3 : ((z : Int) == 0) = false := by simpa using z1
    clear h hx e1 hw1
    go_enter Tryd.func64, Tryd.ntmps64
    go_wp2_with (first | (go_at_call 63; refine HN.out.mono ?_; rintro e wx ⟨rfl, hwx⟩; obtain rfl := hwx.symm))
    go_ret
    exact (HTO.out _ _).2 ⟨by rw [HAL.out] <;> rfl, HB1.out, fun h => by rw [HAL.out] at h; exact absurd h hz⟩
end Go.Proofs.YtjiigdjopcegeaaDoor.Ld
