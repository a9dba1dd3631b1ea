/- Pressed bytes, whatever they are: a number, bytes alone, walked. -/
import Derived.Test.YtddbhhankmejmaaGreatDoorLdSpl
namespace Go.Proofs.YtddbhhankmejmaaGreatDoor.Ld
open Cb
open Go.RowKit
/-- The world behind a number's reading. -/
def nmW (g : Nat) (w : World) (x : Nat × List UInt8 × Nat) : World := if x.2.2 = 0 then w.setCell ⟨g, 1, none⟩ (.string (bs x.2.1)) else w
set_option maxHeartbeats 400000 in
set_option maxRecDepth 100000 in
theorem number_gen (g : Nat) (most : Int) (L : List UInt8) (v : Value) (w : World) (hblk : w.heap[g]? = some (.cells #[v, .string (bs L)] 131 (0, 0))) (hm0 : -1000 ≤ most) (hm : most ≤ 100000000) (hL : L.length ≤ 100000000) :
    Calls Tryz.prog 96 #[.pointer (some ⟨g, 0, none⟩), .int .i64 most] w fun e w' => e = .returned (.tuple #[.int .i64 ((Lz.nm most L).1 : Int), .int .i64 ((Lz.nm most L).2.2 : Int)]) ∧ w' = nmW g w (Lz.nm most L) := by
  have c1 := spc1 hblk
  have f1 := spf 1 hblk
  have HU := hideIt (unnum_any (bs L) w (by rw [bs_size]; exact hL))
  rw [bs_list] at HU
  obtain ⟨n, k, z, hu⟩ : ∃ n k z, Cd.unnum L = (n, k, z) := ⟨_, _, _, rfl⟩
  have HNM : Hid (Lz.nm most L = if z ≠ 0 then (0, L, z) else if most < (n : Int) then (0, L, 6) else (n, L.drop k, 0)) := hideIt (by unfold Lz.nm; rw [hu])
  rw [hu] at HU
  by_cases hz : z = 0
  · subst hz
    rw [if_neg (by simp)] at HNM
    have hk := (Cd.unnum_form hu).2
    have k1 : (k : Int) ≤ ((bs L).size : Int) := by rw [bs_size]; omega
    have hex : (bs L).extract k (bs L).size = bs (L.drop k) := by
      apply ByteArray.ext
      apply Array.toList_inj.1
      simp [bs, List.extract_eq_take_drop, ByteArray.size]
      exact List.take_of_length_le (by simp)
    by_cases hn : most < (n : Int)
    · rw [if_pos hn] at HNM
      have HW : Hid (nmW g w (Lz.nm most L) = w) := hideIt (by rw [HNM.out]; rfl)
      rw [HNM.out, ← HNM.out, HW.out, HNM.out]
      obtain ⟨r, hr⟩ : ∃ r, bs L = r := ⟨_, rfl⟩
      rw [hr] at HU c1
      by_cases hneg : most < 0
      · have m3 : decide (most < 0) = true := decide_eq_true hneg
        clear hblk hu hex k1 hk hr HNM HW
        go_enter Tryz.func96, Tryz.ntmps96
        go_wp2_with (first | (go_at_call 146; refine HU.out.mono ?_; rintro e w1 ⟨rfl, hw1⟩; obtain rfl := hw1.symm; simp only [unV]))
        go_ret2
        exact ⟨rfl, rfl⟩
      · obtain ⟨m, rfl⟩ : ∃ m : Nat, most = (m : Int) := ⟨most.toNat, by omega⟩
        have m3 : decide ((m : Int) < 0) = false := decide_eq_false hneg
        clear hblk hu hex k1 hk hr HNM HW
        go_enter Tryz.func96, Tryz.ntmps96
        go_wp2_with (first | (go_at_call 146; refine HU.out.mono ?_; rintro e w1 ⟨rfl, hw1⟩; obtain rfl := hw1.symm; simp only [unV]))
        go_ret2
        exact ⟨rfl, rfl⟩
    · rw [if_neg hn] at HNM
      have HW : Hid (nmW g w (Lz.nm most L) = w.setCell ⟨g, 1, none⟩ (.string (bs (L.drop k)))) := hideIt (by rw [HNM.out]; rfl)
      rw [HW.out, HNM.out]
      obtain ⟨m, rfl⟩ : ∃ m : Nat, most = (m : Int) := ⟨most.toNat, by omega⟩
      obtain ⟨r, hr⟩ : ∃ r, bs L = r := ⟨_, rfl⟩
      rw [hr] at HU c1 hex k1
      obtain ⟨r1, hr1⟩ : ∃ r, bs (L.drop k) = r := ⟨_, rfl⟩
      rw [hr1] at hex ⊢
      have n1 : ¬ (m : Int) < (n : Int) := hn
      have n2 : (n : Int) ≤ 100000000 := by omega
      have m2 : ¬ (m : Int) < 0 := by omega
      have m3 : decide ((m : Int) < 0) = false := decide_eq_false m2
      clear hblk hu hk hr hr1 HNM HW
      go_enter Tryz.func96, Tryz.ntmps96
      go_wp2_with (first | (go_at_call 146; refine HU.out.mono ?_; rintro e w1 ⟨rfl, hw1⟩; obtain rfl := hw1.symm; simp only [unV]))
      go_ret2
      exact ⟨rfl, rfl⟩
  · rw [if_pos hz] at HNM
    have HW : Hid (nmW g w (Lz.nm most L) = w) := hideIt (by rw [HNM.out, nmW, if_neg hz])
    rw [HW.out, HNM.out]
    obtain ⟨r, hr⟩ : ∃ r, bs L = r := ⟨_, rfl⟩
    rw [hr] at HU c1
    have z1 : ¬ (z : Int) = 0 := by omega
    have z2 : ((z : Int) != 0) = true := by simpa using z1
    have z3 : ((z : Int) == 0) = false := by simpa using z1
    clear hblk hu hr HNM HW
    go_enter Tryz.func96, Tryz.ntmps96
    go_wp2_with (first | (go_at_call 146; refine HU.out.mono ?_; rintro e w1 ⟨rfl, hw1⟩; obtain rfl := hw1.symm; simp only [unV]))
    go_ret2
    exact ⟨rfl, rfl⟩
/-- What alone, or again, leaves. -/
def AloTo (N g : Nat) (x : Nat × List UInt8 × List UInt8) (w0 : World) (e : Ending) (w' : World) : Prop := e = .returned (.int .i64 (x.1 : Int)) ∧ Below N w0 w' ∧ (x.1 = 0 → ∃ v', SpMem N g x.2.1 v' (bs x.2.2) w0 w')
set_option maxHeartbeats 800000 in
set_option maxRecDepth 100000 in
theorem alone_gen (N g left : Nat) (T L : List UInt8) (v : Value) (w0 w : World) (h : SpMem N g T v (bs L) w0 w) (hl : left ≤ 1048576) (hL : L.length ≤ 100000000) (hT : T.length ≤ 1048576) :
    Calls Tryz.prog 97 #[.pointer (some ⟨g, 0, none⟩), .int .i64 (left : Int)] w fun e w' => AloTo N g (Lz.alo left T L) w0 e w' := by
  obtain ⟨i0, hi0, hz0, hz1, hz2⟩ := info_parts infoB
  have HTO : Hid (∀ e w', AloTo N g (Lz.alo left T L) w0 e w' ↔ e = .returned (.int .i64 ((Lz.alo left T L).1 : Int)) ∧ Below N w0 w' ∧ ((Lz.alo left T L).1 = 0 → ∃ v', SpMem N g (Lz.alo left T L).2.1 v' (bs (Lz.alo left T L).2.2) w0 w')) := hideIt (fun _ _ => Iff.rfl)
  have HN := hideIt (number_gen g (left : Int) L v w h.blk (by omega) (by omega) hL)
  have hln := Lz.nm_len (left : Int) L
  obtain ⟨n, R1, z, hx⟩ : ∃ n R1 z, Lz.nm (left : Int) L = (n, R1, z) := ⟨_, _, _, rfl⟩
  have HAL : Hid (Lz.alo left T L = if z ≠ 0 then (z, T, L) else if R1.length < n then (4, T, L) else (0, T ++ R1.take n, R1.drop n)) := hideIt (by unfold Lz.alo; rw [hx])
  rw [hx] at HN hln
  have HB0 := hideIt h.below
  by_cases hz : z = 0
  · subst hz
    have hnl := (Lz.nm_ok hx).1
    rw [if_neg (by simp)] at HAL
    have e1 : nmW g w (n, R1, 0) = w.setCell ⟨g, 1, none⟩ (.string (bs R1)) := rfl
    rw [e1] at HN
    have hs1 := h.rest (bs R1)
    obtain ⟨w1, hw1⟩ : ∃ w1, w.setCell ⟨g, 1, none⟩ (.string (bs R1)) = w1 := ⟨_, rfl⟩
    rw [hw1] at HN hs1
    have c0 := spc0 hs1.blk
    have c1 := spc1 hs1.blk
    have f0 := spf 0 hs1.blk
    have rs : (bs R1).size = R1.length := bs_size R1
    have n3 : (n : Int) ≤ 1048576 := by omega
    obtain ⟨sa, sc, hsv⟩ := slice_of h.own
    by_cases hn : R1.length < n
    · rw [if_pos hn] at HAL
      have HB := hideIt hs1.below
      have m1 : ((bs R1).size : Int) < (n : Int) := by omega
      obtain ⟨r1, hr1⟩ : ∃ r, bs R1 = r := ⟨_, rfl⟩
      rw [hr1] at c1 m1
      clear hs1 h hx hw1 hr1 rs hn
      subst hsv
      go_enter Tryz.func97, Tryz.ntmps97
      go_wp2_with (first | (go_at_call 96; refine HN.out.mono ?_; rintro e wx ⟨rfl, hwx⟩; obtain rfl := hwx.symm))
      go_ret
      exact (HTO.out _ _).2 ⟨by rw [HAL.out] <;> rfl, HB.out, fun h => by rw [HAL.out] at h; cases h⟩
    · rw [if_neg hn] at HAL
      have m1 : ¬ ((bs R1).size : Int) < (n : Int) := by omega
      have m2 : (n : Int) ≤ ((bs R1).size : Int) := by omega
      obtain ⟨E, hE⟩ : ∃ E, (bs R1).extract 0 n = E := ⟨_, rfl⟩
      have hEd : E.data.toList = R1.take n := by rw [← hE, data_mid, List.drop_zero, Nat.sub_zero, bs_list]
      have hEs : E.size = n := by rw [← str_len, hEd, List.length_take]; omega
      obtain ⟨F, hF⟩ : ∃ F, (bs R1).extract n (bs R1).size = F := ⟨_, rfl⟩
      have hFd : F = bs (R1.drop n) := by rw [← bs_data F, ← hF, data_rest, bs_list]
      have HH := hideIt hs1
      have htk : (R1.take n).length = n := by rw [List.length_take]; omega
      have HX : Hid (∀ (q m : Nat) (v' : Value) (w2 : World), m = T.length + E.size → w2.ownsRow N 5 1 v' m (u8s T ++ Lib.strCells E) → (w1.drewN q).grownBy w2 v.ownBlock → w2.heap[g]? = some (.cells #[v, .string (bs R1)] 131 (0, 0)) ∧ SpMem N g (T ++ R1.take n) v' (bs R1) w0 (w2.setCell ⟨g, 0, none⟩ v')) := by
        refine hideIt (fun q m v' w2 hn2 h2 hg2 => ?_)
        rw [str_u8s, hEd] at h2
        exact HH.out.text (w1 := w1.drewN q) ⟨rfl, rfl, rfl, Nat.le_refl _, fun _ _ => rfl⟩ (by rw [hn2, hEs, htk]) h2 hg2
      have HFD := hideIt hFd
      have tE : T.length + E.size ≤ 2097152 := by omega
      obtain ⟨r1, hr1⟩ : ∃ r, bs R1 = r := ⟨_, rfl⟩
      rw [hr1] at c1 m1 m2 hE hF HX HH
      clear hs1 h hx hw1 hEd hEs hFd rs hr1 htk hn
      subst hsv
      go_enter Tryz.func97, Tryz.ntmps97
      go_wp2_with (first | (go_at_call 96; refine HN.out.mono ?_; rintro e wx ⟨rfl, hwx⟩; obtain rfl := hwx.symm))
      go_region_law (refine step_append_str (by rfl) _ _ 82 9 (by rfl) N 5 i0 Tryz.underlying82 Tryz.underlying9 hi0 hz0 hz1 hz2 _ T.length (u8s T) (by rfl) HH.out.own.drew E (by rfl) (by unfold maxLen; omega) (by omega) HH.out.size ?_; intro v' w2 hown2 hg2; obtain ⟨va, vc, rfl⟩ := slice_of hown2; obtain ⟨t1, t2⟩ := HX.out 1 _ _ _ rfl hown2 hg2; have s2 := spc0 t1; have s3 := spf 0 t1; have s4 := spc1 t2.blk; have s5 := spf 1 t2.blk; have T2 := hideIt t2; clear t1 t2)
      all_goals go_wp2
      all_goals go_ret
      all_goals exact (HTO.out _ _).2 ⟨by rw [HAL.out] <;> rfl, (T2.out.rest F).below, fun _ => by rw [HAL.out]; simp only; rw [← HFD.out]; exact ⟨_, T2.out.rest F⟩⟩
  · rw [if_pos hz] at HAL
    have e1 : nmW g w (n, R1, z) = w := by rw [nmW, if_neg hz]
    rw [e1] at HN
    have z1 : ¬ (z : Int) = 0 := by omega
    have z2 : ((z : Int) != 0) = true := by simpa using z1
    have z3 : ((z : Int) == 0) = false := by simpa using z1
    clear h hx e1
    go_enter Tryz.func97, Tryz.ntmps97
    go_wp2_with (first | (go_at_call 96; refine HN.out.mono ?_; rintro e wx ⟨rfl, hwx⟩; obtain rfl := hwx.symm))
    go_ret
    exact (HTO.out _ _).2 ⟨by rw [HAL.out] <;> rfl, HB0.out, fun h => by rw [HAL.out] at h; exact absurd h hz⟩
end Go.Proofs.YtddbhhankmejmaaGreatDoor.Ld
