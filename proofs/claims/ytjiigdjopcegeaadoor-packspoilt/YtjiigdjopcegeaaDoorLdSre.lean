/- The document's Spread, whatever the bytes are: walked. -/
import Derived.Test.YtjiigdjopcegeaaDoorLdSpd
namespace Go.Proofs.YtjiigdjopcegeaaDoor.Ld
open Cb
open Go.RowKit
namespace Lz
theorem agR_len {left : Nat} {T L : List UInt8} (h : (agR left T L).1 = 0) : T.length + 4 ≤ (agR left T L).2.1.length ∧ (agR left T L).2.1.length ≤ T.length + left ∧ (agR left T L).2.2.length ≤ L.length := by
  have h1 := ag_same.1.2 h
  have h2 := ag_same.2 h1
  have h3 := aga_len h1
  rw [h2] at h3
  exact h3
end Lz
set_option maxHeartbeats 400000 in
set_option maxRecDepth 100000 in
theorem refnum4_any (most : Nat) (L : List UInt8) (w : World) (hm : most ≤ 100000000) (hL : L.length ≤ 100000000) :
    Calls Tryd.prog 56 #[.string (bs L), .int .i64 (most : Int)] w fun e w' => e = .returned (.tuple #[.int .i64 ((Lz.nm most L).1 : Int), .string (bs (Lz.nm most L).2.1), .int .i64 ((Lz.nm most L).2.2 : Int)]) ∧ Below w.heap.size w w' := by
  have HU := hideIt (refunnum_any (bs L) w)
  rw [bs_list] at HU
  obtain ⟨n, k, z, hu⟩ : ∃ n k z, Cd.unnum L = (n, k, z) := ⟨_, _, _, rfl⟩
  have HNM : Hid (Lz.nm most L = if z ≠ 0 then (0, L, z) else if (most : Int) < (n : Int) then (0, L, 6) else (n, L.drop k, 0)) := hideIt (by unfold Lz.nm; rw [hu])
  rw [hu] at HU
  have m1 : (most : Int) ≤ 100000000 := by omega
  by_cases hz : z = 0
  · subst hz
    rw [if_neg (by simp)] at HNM
    have hk := (Cd.unnum_form hu).2
    have k1 : (k : Int) ≤ ((bs L).size : Int) := by rw [bs_size]; omega
    have hex : (bs L).extract k (bs L).size = bs (L.drop k) := by
      apply ByteArray.ext
      apply Array.toList_inj.1
      simp [bs, List.extract_eq_take_drop, ByteArray.size]
      exact List.take_of_length_le (by simp)
    have hsz : ((bs L).size : Int) ≤ 100000000 := by rw [bs_size]; omega
    by_cases hn : (most : Int) < (n : Int)
    · rw [if_pos hn] at HNM
      rw [HNM.out]
      obtain ⟨r, hr⟩ : ∃ r, bs L = r := ⟨_, rfl⟩
      simp only
      rw [hr] at HU ⊢
      clear hu hex k1 hk hr HNM hsz
      go_enter Tryd.func56, Tryd.ntmps56
      go_wp2_with (first | (go_at_call 28; refine HU.out.mono ?_; rintro e w1 ⟨rfl, hw1⟩; obtain rfl := hw1.symm; simp only [unV]))
      go_ret3
      exact ⟨rfl, Below.refl _ _⟩
    · rw [if_neg hn] at HNM
      rw [HNM.out]
      simp only
      obtain ⟨r, hr⟩ : ∃ r, bs L = r := ⟨_, rfl⟩
      rw [hr] at HU hex k1 hsz ⊢
      obtain ⟨r1, hr1⟩ : ∃ r, bs (L.drop k) = r := ⟨_, rfl⟩
      rw [hr1] at hex ⊢
      have n2 : (n : Int) ≤ 100000000 := by omega
      clear hu hk hr hr1 HNM
      go_enter Tryd.func56, Tryd.ntmps56
      go_wp2_with (first | (go_at_call 28; refine HU.out.mono ?_; rintro e w1 ⟨rfl, hw1⟩; obtain rfl := hw1.symm; simp only [unV]))
      go_quiet (fail)
      go_wp2
      (try simp only [Exit.inBlock, Exit.then])
      refine bodyPost_ret (v := .tuple #[.int .i64 (n : Int), .string r1, .int .i64 0]) ?_ rfl ⟨rfl, ⟨rfl, rfl, rfl, Nat.le_refl _, fun _ _ => rfl⟩⟩
      rw [results_tmp3 rfl]
      go_simp
  · rw [if_pos hz] at HNM
    rw [HNM.out]
    simp only
    obtain ⟨r, hr⟩ : ∃ r, bs L = r := ⟨_, rfl⟩
    rw [hr] at HU ⊢
    have z1 : ¬ (z : Int) = 0 := by omega
    have z2 : ((z : Int) != 0) = true := by simpa using z1
    have z3 : ((z : Int) == 0) = false := by simpa using z1
    clear hu hr HNM
    go_enter Tryd.func56, Tryd.ntmps56
    go_wp2_with (first | (go_at_call 28; refine HU.out.mono ?_; rintro e w1 ⟨rfl, hw1⟩; obtain rfl := hw1.symm; simp only [unV]))
    go_ret3
    exact ⟨rfl, Below.refl _ _⟩
theorem ownB {B n : Nat} {w w' : World} {v : Value} {xs : List Value} (h : w.ownsRow B 5 1 v n xs) (hb : Below w.heap.size w w') : w'.ownsRow B 5 1 v n xs := own_keep h (fun g hg => hb.block g hg)
theorem own_ge5 {w : World} {B n : Nat} {v : Value} {xs : List Value} (h : w.ownsRow B 5 1 v n xs) : ∀ k, v.ownBlock = some k → B ≤ k := by
  intro k hk
  rcases h.2 with ⟨e, _⟩ | ⟨g, cap, cur, e, h1, _⟩
  · subst e; simp [Value.ownBlock] at hk
  · subst e; simp [Value.ownBlock] at hk; omega
def lenV : Value → Nat
  | .slice _ n _ => n
  | _ => 0
set_option maxHeartbeats 6400000 in
set_option maxRecDepth 100000 in
theorem refspread_any (p : List UInt8) (most : Int) (w : World) (hp : p.length ≤ 100000000) :
    Calls Tryd.prog 44 #[.string (bs p), .int .i64 most] w fun e w' => e = .returned (.tuple #[.string (bs (Lz.spR p most).2), .int .i64 ((Lz.spR p most).1 : Int)]) ∧ Below w.heap.size w w' := by
  obtain ⟨i0, hi0, hz0, hz1, hz2⟩ := info_parts infoB
  have HN : Hid (Calls Tryd.prog 56 #[.string (bs p), .int .i64 1048576] w fun e w' => e = .returned (.tuple #[.int .i64 ((Lz.nm 1048576 p).1 : Int), .string (bs (Lz.nm 1048576 p).2.1),   .int .i64 ((Lz.nm 1048576 p).2.2 : Int)]) ∧ Below w.heap.size w w') := hideIt (refnum4_any 1048576 p w (by omega) hp)
  have hln := Lz.nm_len 1048576 p
  obtain ⟨n, R, z, hx⟩ : ∃ n R z, Lz.nm 1048576 p = (n, R, z) := ⟨_, _, _, rfl⟩
  have HSP : Hid (Lz.spR p most = if z ≠ 0 then (z, []) else if most < (n : Int) then (3, []) else Lz.spF Lz.agR n (n + 1) [] R) := hideIt (by unfold Lz.spR Lz.spA; rw [hx])
  rw [hx] at HN hln
  simp only at hln HN
  have be : bs [] = (⟨#[]⟩ : ByteArray) := rfl
  obtain ⟨S, hS⟩ : ∃ S, bs p = S := ⟨_, rfl⟩
  obtain ⟨RR, hRR⟩ : ∃ S, bs R = S := ⟨_, rfl⟩
  have HRR := hideIt hRR
  rw [hS, hRR] at HN
  rw [hS]
  clear hS hRR
  by_cases hz : z = 0
  · subst hz
    rw [if_neg (by simp)] at HSP
    have hn := (Lz.nm_ok hx).1
    have nI : (n : Int) ≤ 1048576 := hn
    by_cases hm : most < (n : Int)
    · rw [if_pos hm] at HSP
      rw [HSP.out, be]
      clear hx
      go_enter Tryd.func44, Tryd.ntmps44
      go_wp2_with (first | (go_at_call 56; refine HN.out.mono ?_; rintro e wx ⟨rfl, hbx⟩; have HBX := hideIt hbx; clear hbx))
      go_ret2
      exact ⟨rfl, HBX.out⟩
    · rw [if_neg hm] at HSP
      obtain ⟨A, hA⟩ : ∃ A, Lz.spR p most = A := ⟨_, rfl⟩
      rw [hA] at HSP ⊢
      clear hx hA
      go_enter Tryd.func44, Tryd.ntmps44
      go_wp2_with (first | (go_at_call 56; refine HN.out.mono ?_; rintro e wx ⟨rfl, hbx⟩; have HBX := hideIt hbx; clear hbx))
      clear HN
      go_loopw [7, 9] (fun r v wr => ∃ (f : Nat) (T L : List UInt8), r = .string (bs L) ∧ L.length ≤ 100000000 ∧ T.length ≤ n ∧ n - T.length < f ∧ A = Lz.spF Lz.agR n f T L ∧ wr.ownsRow w.heap.size 5 1 v T.length (u8s T) ∧ Below w.heap.size w wr) (fun _ v _ => n - lenV v)
      case atStart => exact ⟨n + 1, [], R, by rw [HRR.out], by omega, by simp, by simp, HSP.out, ⟨rfl, .inr ⟨wx.heap.size, 0, #[], rfl, HBX.out.size, alloc_at rfl, by simp, by simp, rfl, rfl⟩⟩, HBX.out.alloc HBX.out.size _⟩
      case round =>
        obtain ⟨f, T, L, rfl, hL, hTn, hf, hA, hown, hbl⟩ := hrel
        clear HSP
        obtain ⟨f', rfl⟩ : ∃ f', f = f' + 1 := ⟨f - 1, by omega⟩
        rw [Lz.spF] at hA
        obtain ⟨a, ha⟩ : ∃ a, T.length = a := ⟨_, rfl⟩
        obtain ⟨va, vc, hv⟩ := slice_of hown
        rw [ha] at hTn hf hA hown hv
        subst hv
        have HO := hideIt hown
        have HB := hideIt hbl
        have hsz0 : w.heap.size ≤ wr.heap.size := hbl.size
        have a1 : (a : Int) ≤ (n : Int) := by omega
        obtain ⟨LL, hLL⟩ : ∃ S, bs L = S := ⟨_, rfl⟩
        rw [hLL]
        have HLL := hideIt hLL
        by_cases hlt : a < n
        · rw [if_pos hlt] at hA
          have hlt1 : (a : Int) < (n : Int) := by omega
          have hlt2 : decide ((a : Int) < (n : Int)) = true := decide_eq_true hlt1
          obtain ⟨d, hd⟩ : ∃ d, n - a = d := ⟨_, rfl⟩
          have dI : (n : Int) - (a : Int) = (d : Int) := by omega
          have d2 : (d : Int) ≤ 1048576 := by omega
          rw [hd] at hA
          have HN1 := hideIt (fun w => refnum4_any d L w (by omega) hL)
          have hl1 := Lz.nm_len (d : Int) L
          obtain ⟨m, R1, z1, hx⟩ : ∃ n R z, Lz.nm (d : Int) L = (n, R, z) := ⟨_, _, _, rfl⟩
          have hAL : Lz.alo d T L = if z1 ≠ 0 then (z1, T, L) else if R1.length < m then (4, T, L) else (0, T ++ R1.take m, R1.drop m) := by unfold Lz.alo; rw [hx]
          rw [hx] at HN1 hl1
          simp only at hl1 HN1
          rw [hLL] at HN1
          by_cases hz1' : z1 = 0
          · subst hz1'
            rw [if_neg (by simp)] at hAL
            have hmd := (Lz.nm_ok hx).1
            have m1 : (m : Int) ≤ 1048576 := by omega
            have rs : (bs R1).size = R1.length := bs_size R1
            by_cases hmr : R1.length < m
            · rw [if_pos hmr] at hAL
              have HAX : Hid (A = (4, [])) := hideIt (by rw [hA, hAL, if_pos (by simp)])
              have c1 : ((bs R1).size : Int) < (m : Int) := by omega
              obtain ⟨r1, hr1⟩ : ∃ r, bs R1 = r := ⟨_, rfl⟩
              rw [hr1] at HN1 c1
              clear hA hAL hx ha hd hown hbl hLL rs hr1
              go_wp2_with (first | (go_at_call_of 56 (Value.int IntKind.i64 (d : Int)); refine (HN1.out _).mono ?_; rintro e w1 ⟨rfl, hb1⟩; have B1 := hideIt (HB.out.trans (hb1.mono hsz0)); have O1 := hideIt (ownB HO.out hb1); clear hb1))
              go_ret2
              exact ⟨by rw [HAX.out] <;> rfl, B1.out⟩
            · rw [if_neg hmr] at hAL
              rw [hAL, if_neg (by simp)] at hA
              simp only at hA
              have c1 : ¬ ((bs R1).size : Int) < (m : Int) := by omega
              have c2 : (m : Int) ≤ ((bs R1).size : Int) := by omega
              have c3 : ((bs R1).size : Int) ≤ 100000000 := by omega
              obtain ⟨E, hE⟩ : ∃ E, (bs R1).extract 0 m = E := ⟨_, rfl⟩
              have hEd : E.data.toList = R1.take m := by rw [← hE, data_mid, List.drop_zero, Nat.sub_zero, bs_list]
              have htk : (R1.take m).length = m := by rw [List.length_take]; omega
              have hEs : E.size = m := by rw [← str_len, hEd, htk]
              obtain ⟨G, hG⟩ : ∃ G, (bs R1).extract m (bs R1).size = G := ⟨_, rfl⟩
              have hGd : G = bs (R1.drop m) := by rw [← bs_data G, ← hG, data_rest, bs_list]
              obtain ⟨T1, hT1⟩ : ∃ T1, T ++ R1.take m = T1 := ⟨_, rfl⟩
              obtain ⟨L1, hL1⟩ : ∃ L1, R1.drop m = L1 := ⟨_, rfl⟩
              have hT1l : T1.length = a + m := by rw [← hT1, List.length_append, ha, htk]
              have hL1l : L1.length ≤ 100000000 := by rw [← hL1, List.length_drop]; omega
              rw [hT1, hL1] at hA
              rw [hL1] at hGd
              have HTU : Hid (u8s T ++ Lib.strCells E = u8s T1) := hideIt (by rw [str_u8s, hEd, ← hT1]; simp [u8s])
              obtain ⟨i, hi⟩ : ∃ i, a + m = i := ⟨_, rfl⟩
              rw [hi] at hT1l
              have HGD := hideIt hGd
              have HT1 := hideIt hT1l
              have hin : i ≤ n := by omega
              obtain ⟨r1, hr1⟩ : ∃ r, bs R1 = r := ⟨_, rfl⟩
              rw [hr1] at HN1 c1 c2 c3 hE hG
              have tE : a + E.size ≤ 2097152 := by omega
              have HES : Hid (a + E.size = i) := hideIt (by omega)
              rw [hT1l] at hA
              have HCV : Hid (∀ (xa : Option Addr) (xc : Nat) (w2 : World), w2.ownsRow w.heap.size 5 1 (.slice xa i xc) i (u8s T1) → (convert 42 9 (.slice xa i xc)).run Tryd.prog w2 = .ok (.string (bs T1)) w2) := hideIt (fun xa xc w2 h => run_own (by rw [← HT1.out] at h; rw [← HT1.out]; exact h))
              by_cases hin2 : i = n
              · rw [if_pos hin2] at hA
                have HAA := hideIt hA
                have i1 : ((i : Int) == (n : Int)) = true := by simp [hin2]
                have i2 : (i : Int) = (n : Int) := by omega
                by_cases hL0 : L1 = []
                · have HAX : Hid (A = (0, T1)) := hideIt (by rw [HAA.out, Lz.fin, if_pos hL0])
                  have q1 : (G.toList == []) = true := by rw [hGd, bs_nil_iff]; exact decide_eq_true hL0
                  have q2 : G.toList.isEmpty = true := by rw [hGd, hL0, ByteArray.toList_eq]; rfl
                  clear hA hAL hx ha hd hown hbl hLL rs hr1 hEd htk hEs hGd hT1 hL1 hT1l hi hL0 HAA hin2
                  go_wp2_with (first | (go_at_call_of 56 (Value.int IntKind.i64 (d : Int)); refine (HN1.out _).mono ?_; rintro e w1 ⟨rfl, hb1⟩; have B1 := hideIt (HB.out.trans (hb1.mono hsz0)); have O1 := hideIt (ownB HO.out hb1); clear hb1))
                  go_region_law (refine step_append_str (by rfl) _ _ 42 9 (by rfl) w.heap.size 5 i0 Tryd.underlying42 Tryd.underlying9 hi0 hz0 hz1 hz2 (.slice va a vc) a (u8s T) (by go_simp) O1.out.drew E (by go_simp) (by unfold maxLen; omega) (by omega) B1.out.size ?_; intro v' w2 hown2 hg2; obtain ⟨xa, xc, rfl⟩ := slice_of hown2; rw [HES.out, HTU.out] at hown2; have O2 := hideIt hown2; have B2 := hideIt (Below.grown B1.out.drew hg2 B1.out.size (own_ge5 O1.out)); have CV := hideIt (HCV.out _ _ _ hown2); rw [HES.out]; clear hown2 hg2)
                  have cv := CV.out
                  go_wp2
                  go_ret2
                  exact ⟨by rw [HAX.out] <;> rfl, B2.out⟩
                · have HAX : Hid (A = (5, [])) := hideIt (by rw [HAA.out, Lz.fin, if_neg hL0])
                  have q1 : (G.toList == []) = false := by rw [hGd, bs_nil_iff]; exact decide_eq_false hL0
                  have q2 : G.toList.isEmpty = false := by rw [hGd, ByteArray.toList_eq, bs_list]; cases L1 with | nil => exact absurd rfl hL0 | cons _ _ => rfl
                  clear hA hAL hx ha hd hown hbl hLL rs hr1 hEd htk hEs hGd hT1 hL1 hT1l hi hL0 HAA hin2
                  go_wp2_with (first | (go_at_call_of 56 (Value.int IntKind.i64 (d : Int)); refine (HN1.out _).mono ?_; rintro e w1 ⟨rfl, hb1⟩; have B1 := hideIt (HB.out.trans (hb1.mono hsz0)); have O1 := hideIt (ownB HO.out hb1); clear hb1))
                  go_region_law (refine step_append_str (by rfl) _ _ 42 9 (by rfl) w.heap.size 5 i0 Tryd.underlying42 Tryd.underlying9 hi0 hz0 hz1 hz2 (.slice va a vc) a (u8s T) (by go_simp) O1.out.drew E (by go_simp) (by unfold maxLen; omega) (by omega) B1.out.size ?_; intro v' w2 hown2 hg2; obtain ⟨xa, xc, rfl⟩ := slice_of hown2; rw [HES.out, HTU.out] at hown2; have O2 := hideIt hown2; have B2 := hideIt (Below.grown B1.out.drew hg2 B1.out.size (own_ge5 O1.out)); have CV := hideIt (HCV.out _ _ _ hown2); rw [HES.out]; clear hown2 hg2)
                  go_wp2
                  go_ret2
                  exact ⟨by rw [HAX.out] <;> rfl, B2.out⟩
              · rw [if_neg hin2] at hA
                have i1 : ¬ (i : Int) = (n : Int) := by omega
                have i2 : ((i : Int) == (n : Int)) = false := beq_eq_false_iff_ne.2 i1
                obtain ⟨l, hl⟩ : ∃ l, n - i = l := ⟨_, rfl⟩
                rw [hl] at hA
                have lI : (n : Int) - (i : Int) = (l : Int) := by omega
                have l2 : (l : Int) ≤ 1048576 := by omega
                have HN2 : Hid (∀ w, Calls Tryd.prog 56 #[.string (bs L1), .int .i64 32768] w fun e w' => e = .returned (.tuple #[.int .i64 ((Lz.nm 32768 L1).1 : Int), .string (bs (Lz.nm 32768 L1).2.1), .int .i64 ((Lz.nm 32768 L1).2.2 : Int)]) ∧ Below w.heap.size w w') := hideIt (fun w => refnum4_any 32768 L1 w (by omega) hL1l)
                have hl2 := Lz.nm_len 32768 L1
                obtain ⟨k, R2, z2, hx2⟩ : ∃ n R z, Lz.nm 32768 L1 = (n, R, z) := ⟨_, _, _, rfl⟩
                rw [hx2] at HN2 hl2
                simp only at HN2 hl2
                rw [← hGd] at HN2
                have HN3 := hideIt (fun w => refnum4_any l R2 w (by omega) (by omega))
                have hl3 := Lz.nm_len (l : Int) R2
                obtain ⟨q, R3, z3, hx3⟩ : ∃ n R z, Lz.nm (l : Int) R2 = (n, R, z) := ⟨_, _, _, rfl⟩
                rw [hx3] at HN3 hl3
                simp only at HN3 hl3
                have hAG : Lz.agR l T1 L1 = if z2 ≠ 0 then (z2, T1, L1) else if z3 ≠ 0 then (z3, T1, L1) else if l < q + 4 ∨ k < 1 ∨ T1.length < k then (6, T1, L1) else (0, Lz.rep k (q + 4) T1, R3) := by
                  unfold Lz.agR
                  rw [hx2]
                  simp only
                  rw [hx3]
                rw [hT1l] at hAG
                obtain ⟨r2, hr2⟩ : ∃ r, bs R2 = r := ⟨_, rfl⟩
                rw [hr2] at HN2 HN3
                obtain ⟨r3, hr3⟩ : ∃ r, bs R3 = r := ⟨_, rfl⟩
                rw [hr3] at HN3
                have HR3 := hideIt hr3
                by_cases hz2' : z2 = 0
                · subst hz2'
                  rw [if_neg (by simp)] at hAG
                  have kI := (Lz.nm_ok hx2).1
                  by_cases hz3' : z3 = 0
                  · subst hz3'
                    rw [if_neg (by simp)] at hAG
                    have qI := (Lz.nm_ok hx3).1
                    have q2I : (q : Int) ≤ 1048576 := by omega
                    obtain ⟨c, hc⟩ : ∃ c, q + 4 = c := ⟨_, rfl⟩
                    rw [hc] at hAG
                    have cI : (q : Int) + 4 = (c : Int) := by omega
                    have cI2 : (c : Int) ≤ 1048580 := by omega
                    by_cases hbad : l < c ∨ k < 1 ∨ i < k
                    · rw [if_pos hbad] at hAG
                      have HAX : Hid (A = (6, [])) := hideIt (by rw [hA, hAG, if_pos (by simp)])
                      by_cases b1 : l < c
                      · have t1 : (l : Int) < (c : Int) := by omega
                        have t2 : decide ((l : Int) < (c : Int)) = true := decide_eq_true t1
                        clear hA hAL hx ha hd hown hbl hLL rs hr1 hEd htk hEs hGd hT1 hL1 hT1l hi hx2 hx3 hAG hr2 hr3 hc hl
                        go_wp2_with (first | (go_at_call_of 56 (Value.int IntKind.i64 (d : Int)); refine (HN1.out _).mono ?_; rintro e w1 ⟨rfl, hb1⟩; have B1 := hideIt (HB.out.trans (hb1.mono hsz0)); have O1 := hideIt (ownB HO.out hb1); clear hb1))
                        go_region_law (refine step_append_str (by rfl) _ _ 42 9 (by rfl) w.heap.size 5 i0 Tryd.underlying42 Tryd.underlying9 hi0 hz0 hz1 hz2 (.slice va a vc) a (u8s T) (by go_simp) O1.out.drew E (by go_simp) (by unfold maxLen; omega) (by omega) B1.out.size ?_; intro v' w2 hown2 hg2; obtain ⟨xa, xc, rfl⟩ := slice_of hown2; rw [HES.out, HTU.out] at hown2; have O2 := hideIt hown2; have B2 := hideIt (Below.grown B1.out.drew hg2 B1.out.size (own_ge5 O1.out)); have CV := hideIt (HCV.out _ _ _ hown2); rw [HES.out]; clear hown2 hg2)
                        go_wp2_with (first | (go_at_call_of 56 (Value.int IntKind.i64 32768); refine (HN2.out _).mono ?_; rintro e w3 ⟨rfl, hb3⟩; have B3 := hideIt (B2.out.trans (hb3.mono B2.out.size)); have O3 := hideIt (ownB O2.out hb3); clear hb3) | (go_at_call_of 56 (Value.int IntKind.i64 (l : Int)); refine (HN3.out _).mono ?_; rintro e w4 ⟨rfl, hb4⟩; have B4 := hideIt (B3.out.trans (hb4.mono B3.out.size)); have O4 := hideIt (ownB O3.out hb4); clear hb4))
                        go_ret2
                        exact ⟨by rw [HAX.out] <;> rfl, B4.out⟩
                      · have t1 : ¬ (l : Int) < (c : Int) := by omega
                        have t2 : decide ((l : Int) < (c : Int)) = false := decide_eq_false t1
                        by_cases b2 : k < 1
                        · obtain rfl : k = 0 := by omega
                          clear hA hAL hx ha hd hown hbl hLL rs hr1 hEd htk hEs hGd hT1 hL1 hT1l hi hx2 hx3 hAG hr2 hr3 hc hl
                          go_wp2_with (first | (go_at_call_of 56 (Value.int IntKind.i64 (d : Int)); refine (HN1.out _).mono ?_; rintro e w1 ⟨rfl, hb1⟩; have B1 := hideIt (HB.out.trans (hb1.mono hsz0)); have O1 := hideIt (ownB HO.out hb1); clear hb1))
                          go_region_law (refine step_append_str (by rfl) _ _ 42 9 (by rfl) w.heap.size 5 i0 Tryd.underlying42 Tryd.underlying9 hi0 hz0 hz1 hz2 (.slice va a vc) a (u8s T) (by go_simp) O1.out.drew E (by go_simp) (by unfold maxLen; omega) (by omega) B1.out.size ?_; intro v' w2 hown2 hg2; obtain ⟨xa, xc, rfl⟩ := slice_of hown2; rw [HES.out, HTU.out] at hown2; have O2 := hideIt hown2; have B2 := hideIt (Below.grown B1.out.drew hg2 B1.out.size (own_ge5 O1.out)); have CV := hideIt (HCV.out _ _ _ hown2); rw [HES.out]; clear hown2 hg2)
                          go_wp2_with (first | (go_at_call_of 56 (Value.int IntKind.i64 32768); refine (HN2.out _).mono ?_; rintro e w3 ⟨rfl, hb3⟩; have B3 := hideIt (B2.out.trans (hb3.mono B2.out.size)); have O3 := hideIt (ownB O2.out hb3); clear hb3) | (go_at_call_of 56 (Value.int IntKind.i64 (l : Int)); refine (HN3.out _).mono ?_; rintro e w4 ⟨rfl, hb4⟩; have B4 := hideIt (B3.out.trans (hb4.mono B3.out.size)); have O4 := hideIt (ownB O3.out hb4); clear hb4))
                          go_ret2
                          exact ⟨by rw [HAX.out] <;> rfl, B4.out⟩
                        · have t3 : ¬ (k : Int) < 1 := by omega
                          have t4 : decide ((k : Int) < 1) = false := decide_eq_false t3
                          have t5 : (i : Int) < (k : Int) := by omega
                          have t6 : decide ((i : Int) < (k : Int)) = true := decide_eq_true t5
                          clear hA hAL hx ha hd hown hbl hLL rs hr1 hEd htk hEs hGd hT1 hL1 hT1l hi hx2 hx3 hAG hr2 hr3 hc hl
                          go_wp2_with (first | (go_at_call_of 56 (Value.int IntKind.i64 (d : Int)); refine (HN1.out _).mono ?_; rintro e w1 ⟨rfl, hb1⟩; have B1 := hideIt (HB.out.trans (hb1.mono hsz0)); have O1 := hideIt (ownB HO.out hb1); clear hb1))
                          go_region_law (refine step_append_str (by rfl) _ _ 42 9 (by rfl) w.heap.size 5 i0 Tryd.underlying42 Tryd.underlying9 hi0 hz0 hz1 hz2 (.slice va a vc) a (u8s T) (by go_simp) O1.out.drew E (by go_simp) (by unfold maxLen; omega) (by omega) B1.out.size ?_; intro v' w2 hown2 hg2; obtain ⟨xa, xc, rfl⟩ := slice_of hown2; rw [HES.out, HTU.out] at hown2; have O2 := hideIt hown2; have B2 := hideIt (Below.grown B1.out.drew hg2 B1.out.size (own_ge5 O1.out)); have CV := hideIt (HCV.out _ _ _ hown2); rw [HES.out]; clear hown2 hg2)
                          go_wp2_with (first | (go_at_call_of 56 (Value.int IntKind.i64 32768); refine (HN2.out _).mono ?_; rintro e w3 ⟨rfl, hb3⟩; have B3 := hideIt (B2.out.trans (hb3.mono B2.out.size)); have O3 := hideIt (ownB O2.out hb3); clear hb3) | (go_at_call_of 56 (Value.int IntKind.i64 (l : Int)); refine (HN3.out _).mono ?_; rintro e w4 ⟨rfl, hb4⟩; have B4 := hideIt (B3.out.trans (hb4.mono B3.out.size)); have O4 := hideIt (ownB O3.out hb4); clear hb4))
                          go_ret2
                          exact ⟨by rw [HAX.out] <;> rfl, B4.out⟩
                    · rw [if_neg hbad] at hAG
                      rw [hAG, if_neg (by simp)] at hA
                      simp only at hA
                      have HAA := hideIt hA
                      have t1 : ¬ (l : Int) < (c : Int) := by omega
                      have t2 : decide ((l : Int) < (c : Int)) = false := decide_eq_false t1
                      have t3 : ¬ (k : Int) < 1 := by omega
                      have t4 : decide ((k : Int) < 1) = false := decide_eq_false t3
                      have t5 : ¬ (i : Int) < (k : Int) := by omega
                      have t6 : decide ((i : Int) < (k : Int)) = false := decide_eq_false t5
                      have t7 : decide (l < c) = false := decide_eq_false (by omega)
                      have t8 : decide (i < k) = false := decide_eq_false (by omega)
                      have t9 : ¬ l < c := by omega
                      have t0 : ¬ i < k := by omega
                      have hki : 1 ≤ k ∧ k ≤ i := by omega
                      have hcl : i + c ≤ n := by omega
                      have HLN : Hid (∀ j, (Lz.rep k j T1).length = i + j) := hideIt (fun j => by rw [Lz.rep_len, HT1.out])
                      have HC4 : Hid (4 ≤ c ∧ a ≤ i ∧ R3.length ≤ 100000000) := hideIt ⟨by omega, by omega, by omega⟩
                      clear hA hAL hx ha hd hown hbl hLL rs hr1 hEd htk hEs hGd hT1 hL1 hT1l hi hx2 hx3 hAG hr2 hr3 hc hl hbad
                      go_wp2_with (first | (go_at_call_of 56 (Value.int IntKind.i64 (d : Int)); refine (HN1.out _).mono ?_; rintro e w1 ⟨rfl, hb1⟩; have B1 := hideIt (HB.out.trans (hb1.mono hsz0)); have O1 := hideIt (ownB HO.out hb1); clear hb1))
                      go_region_law (refine step_append_str (by rfl) _ _ 42 9 (by rfl) w.heap.size 5 i0 Tryd.underlying42 Tryd.underlying9 hi0 hz0 hz1 hz2 (.slice va a vc) a (u8s T) (by go_simp) O1.out.drew E (by go_simp) (by unfold maxLen; omega) (by omega) B1.out.size ?_; intro v' w2 hown2 hg2; obtain ⟨xa, xc, rfl⟩ := slice_of hown2; rw [HES.out, HTU.out] at hown2; have O2 := hideIt hown2; have B2 := hideIt (Below.grown B1.out.drew hg2 B1.out.size (own_ge5 O1.out)); have CV := hideIt (HCV.out _ _ _ hown2); rw [HES.out]; clear hown2 hg2)
                      go_wp2_with (first | (go_at_call_of 56 (Value.int IntKind.i64 32768); refine (HN2.out _).mono ?_; rintro e w3 ⟨rfl, hb3⟩; have B3 := hideIt (B2.out.trans (hb3.mono B2.out.size)); have O3 := hideIt (ownB O2.out hb3); clear hb3) | (go_at_call_of 56 (Value.int IntKind.i64 (l : Int)); refine (HN3.out _).mono ?_; rintro e w4 ⟨rfl, hb4⟩; have B4 := hideIt (B3.out.trans (hb4.mono B3.out.size)); have O4 := hideIt (ownB O3.out hb4); clear hb4))
                      go_loopw [9, 15] (fun v t wq => ∃ j : Nat, j ≤ c ∧ t = .int .i64 j ∧ wq.ownsRow w.heap.size 5 1 v (i + j) (u8s (Lz.rep k j T1)) ∧ Below w.heap.size w wq) (fun _ t _ => c - (intOf t).toNat)
                      case atStart => exact ⟨0, by omega, rfl, O4.out, B4.out⟩
                      case round =>
                        obtain ⟨j, hj, rfl, hown, hbl⟩ := hrel
                        have BJ := hideIt hbl
                        clear O4 B4 O3 B3 O2 B2 O1 B1 HO CV HCV HN1 HN2 HN3
                        have hln := HLN.out j
                        obtain ⟨gt, cap, hv⟩ := own_some hown (by omega)
                        subst hv
                        by_cases hlt : j < c
                        · have hid : decide ((j : Int) < (c : Int)) = true := decide_eq_true (by omega)
                          obtain ⟨nn, hnn⟩ : ∃ nn, i + j = nn := ⟨_, rfl⟩
                          obtain ⟨pp, hpp⟩ : ∃ p, nn - k = p := ⟨_, rfl⟩
                          rw [hnn] at hln hown ⊢
                          have hpn : pp < (Lz.rep k j T1).length := by rw [hln]; omega
                          obtain ⟨x, hpx⟩ : ∃ x, (Lz.rep k j T1)[pp] = x := ⟨_, rfl⟩
                          have HRP : Hid (Lz.rep k (j + 1) T1 = Lz.rep k j T1 ++ [x]) := hideIt (by
                            rw [Lz.rep, hln, hpp, List.getD, List.getElem?_eq_getElem hpn, hpx]
                            rfl)
                          have ct := hown.cellAt pp (by rw [Nat.mul_one]; omega)
                          rw [u8s_at _ _ hpn, hpx] at ct
                          have n1 : (nn : Int) - (k : Int) = (pp : Int) := by omega
                          have p1 : (pp : Int) < (nn : Int) := by omega
                          have p0 : (0 : Int) ≤ (pp : Int) := by omega
                          have nnI : (nn : Int) ≤ 1048576 := by omega
                          have pw : IntKind.i64.wrap (pp : Int) = (pp : Int) := by rw [IntKind.wrap_i64]; omega
                          obtain ⟨U, hU⟩ : ∃ U, Lz.rep k j T1 = U := ⟨_, rfl⟩
                          rw [hU] at HRP hown
                          have OJ := hideIt hown
                          have HNN : Hid (i + (j + 1) = nn + 1) := hideIt (by omega)
                          have HUX : Hid (u8s U ++ u8s [x] = u8s (U ++ [x])) := hideIt (by simp [u8s])
                          have hsq : w.heap.size ≤ wr.heap.size := hbl.size
                          clear hown hbl hnn hpp hpn hpx hU hln
                          go_wp2_with (first | (at_builtin; refine wpList_append_own _ rfl _ _ 42 rfl w.heap.size 5 i0 (.int .u8 0) 1 1 Tryd.underlying42 hi0 hz0 hz1 hz2 rfl (by decide) _ nn (u8s U) rfl (OJ.out.alloc _) ⟨wr.heap.size, 0, none⟩ 1 1 (u8s [x]) rfl rfl (one_cellN x _ rfl) (u8s_one _) (by unfold maxLen; omega) (by omega) (by simp; omega) ?_; intro v' w5 hown5 hg5 hnil5))
                          go_roundw
                          case rel =>
                            refine ⟨j + 1, by omega, by go_num, ?_, Below.grown (BJ.out.alloc hsq _) hg5 (by simp; omega) (own_ge5 OJ.out)⟩
                            rw [HNN.out, HRP.out, ← HUX.out]
                            exact hown5
                          case measure => simp [intOf]; omega
                        · obtain rfl : j = c := by omega
                          have hid : decide ((j : Int) < (j : Int)) = false := decide_eq_false (by omega)
                          have OJ := hideIt hown
                          clear hown hbl
                          go_wp2
                          go_roundw
                          case rel =>
                            obtain ⟨g1, g2, g3⟩ := HC4.out
                            exact ⟨f', Lz.rep k j T1, R3, by rw [HR3.out], g3, by rw [hln]; omega, by rw [hln]; omega, HAA.out, by rw [hln]; exact OJ.out, BJ.out⟩
                          case measure =>
                            obtain ⟨g1, g2, g3⟩ := HC4.out
                            show n - (i + j) < n - a
                            omega
                  · rw [if_pos hz3'] at hAG
                    have HAX : Hid (A = (z3, [])) := hideIt (by rw [hA, hAG, if_pos hz3'])
                    have y1 : ¬ (z3 : Int) = 0 := by omega
                    have y2 : ((z3 : Int) != 0) = true := by simpa using y1
                    have y3 : ((z3 : Int) == 0) = false := by simpa using y1
                    clear hA hAL hx ha hd hown hbl hLL rs hr1 hEd htk hEs hGd hT1 hL1 hT1l hi hx2 hx3 hAG hr2 hr3 hl
                    go_wp2_with (first | (go_at_call_of 56 (Value.int IntKind.i64 (d : Int)); refine (HN1.out _).mono ?_; rintro e w1 ⟨rfl, hb1⟩; have B1 := hideIt (HB.out.trans (hb1.mono hsz0)); have O1 := hideIt (ownB HO.out hb1); clear hb1))
                    go_region_law (refine step_append_str (by rfl) _ _ 42 9 (by rfl) w.heap.size 5 i0 Tryd.underlying42 Tryd.underlying9 hi0 hz0 hz1 hz2 (.slice va a vc) a (u8s T) (by go_simp) O1.out.drew E (by go_simp) (by unfold maxLen; omega) (by omega) B1.out.size ?_; intro v' w2 hown2 hg2; obtain ⟨xa, xc, rfl⟩ := slice_of hown2; rw [HES.out, HTU.out] at hown2; have O2 := hideIt hown2; have B2 := hideIt (Below.grown B1.out.drew hg2 B1.out.size (own_ge5 O1.out)); have CV := hideIt (HCV.out _ _ _ hown2); rw [HES.out]; clear hown2 hg2)
                    go_wp2_with (first | (go_at_call_of 56 (Value.int IntKind.i64 32768); refine (HN2.out _).mono ?_; rintro e w3 ⟨rfl, hb3⟩; have B3 := hideIt (B2.out.trans (hb3.mono B2.out.size)); have O3 := hideIt (ownB O2.out hb3); clear hb3) | (go_at_call_of 56 (Value.int IntKind.i64 (l : Int)); refine (HN3.out _).mono ?_; rintro e w4 ⟨rfl, hb4⟩; have B4 := hideIt (B3.out.trans (hb4.mono B3.out.size)); have O4 := hideIt (ownB O3.out hb4); clear hb4))
                    go_ret2
                    exact ⟨by rw [HAX.out] <;> rfl, B4.out⟩
                · rw [if_pos hz2'] at hAG
                  have HAX : Hid (A = (z2, [])) := hideIt (by rw [hA, hAG, if_pos hz2'])
                  have y1 : ¬ (z2 : Int) = 0 := by omega
                  have y2 : ((z2 : Int) != 0) = true := by simpa using y1
                  have y3 : ((z2 : Int) == 0) = false := by simpa using y1
                  clear hA hAL hx ha hd hown hbl hLL rs hr1 hEd htk hEs hGd hT1 hL1 hT1l hi hx2 hx3 hAG hr2 hr3 hl
                  go_wp2_with (first | (go_at_call_of 56 (Value.int IntKind.i64 (d : Int)); refine (HN1.out _).mono ?_; rintro e w1 ⟨rfl, hb1⟩; have B1 := hideIt (HB.out.trans (hb1.mono hsz0)); have O1 := hideIt (ownB HO.out hb1); clear hb1))
                  go_region_law (refine step_append_str (by rfl) _ _ 42 9 (by rfl) w.heap.size 5 i0 Tryd.underlying42 Tryd.underlying9 hi0 hz0 hz1 hz2 (.slice va a vc) a (u8s T) (by go_simp) O1.out.drew E (by go_simp) (by unfold maxLen; omega) (by omega) B1.out.size ?_; intro v' w2 hown2 hg2; obtain ⟨xa, xc, rfl⟩ := slice_of hown2; rw [HES.out, HTU.out] at hown2; have O2 := hideIt hown2; have B2 := hideIt (Below.grown B1.out.drew hg2 B1.out.size (own_ge5 O1.out)); have CV := hideIt (HCV.out _ _ _ hown2); rw [HES.out]; clear hown2 hg2)
                  go_wp2_with (first | (go_at_call_of 56 (Value.int IntKind.i64 32768); refine (HN2.out _).mono ?_; rintro e w3 ⟨rfl, hb3⟩; have B3 := hideIt (B2.out.trans (hb3.mono B2.out.size)); have O3 := hideIt (ownB O2.out hb3); clear hb3))
                  go_ret2
                  exact ⟨by rw [HAX.out] <;> rfl, B3.out⟩
          · rw [if_pos hz1'] at hAL
            have HAX : Hid (A = (z1, [])) := hideIt (by rw [hA, hAL, if_pos hz1'])
            have y1 : ¬ (z1 : Int) = 0 := by omega
            have y2 : ((z1 : Int) != 0) = true := by simpa using y1
            have y3 : ((z1 : Int) == 0) = false := by simpa using y1
            clear hA hAL hx ha hd hown hbl hLL
            go_wp2_with (first | (go_at_call_of 56 (Value.int IntKind.i64 (d : Int)); refine (HN1.out _).mono ?_; rintro e w1 ⟨rfl, hb1⟩; have B1 := hideIt (HB.out.trans (hb1.mono hsz0)); have O1 := hideIt (ownB HO.out hb1); clear hb1))
            go_ret2
            exact ⟨by rw [HAX.out] <;> rfl, B1.out⟩
        · obtain rfl : a = n := by omega
          rw [if_neg (by omega)] at hA
          have hlt2 : decide ((a : Int) < (a : Int)) = false := decide_eq_false (by omega)
          have hcv : (convert 42 9 (.slice va a vc)).run Tryd.prog wr = .ok (.string (bs T)) wr := run_own (by rw [← ha] at hown; rw [← ha]; exact hown)
          by_cases hL0 : L = []
          · have HAX : Hid (A = (0, T)) := hideIt (by rw [hA, Lz.fin, if_pos hL0])
            have q1 : (LL.toList == []) = true := by rw [← hLL, bs_nil_iff]; exact decide_eq_true hL0
            have q2 : LL.toList.isEmpty = true := by rw [← hLL, hL0, ByteArray.toList_eq]; rfl
            clear hown hbl hA ha hLL hL0
            go_wp2
            go_ret2
            exact ⟨by rw [HAX.out] <;> rfl, HB.out⟩
          · have HAX : Hid (A = (5, [])) := hideIt (by rw [hA, Lz.fin, if_neg hL0])
            have q1 : (LL.toList == []) = false := by rw [← hLL, bs_nil_iff]; exact decide_eq_false hL0
            have q2 : LL.toList.isEmpty = false := by rw [← hLL, ByteArray.toList_eq, bs_list]; cases L with | nil => exact absurd rfl hL0 | cons _ _ => rfl
            clear hown hbl hA ha hLL hL0
            go_wp2
            go_ret2
            exact ⟨by rw [HAX.out] <;> rfl, HB.out⟩
  · rw [if_pos hz] at HSP
    rw [HSP.out, be]
    have z1' : ¬ (z : Int) = 0 := by omega
    have z2' : ((z : Int) != 0) = true := by simpa using z1'
    have z3' : ((z : Int) == 0) = false := by simpa using z1'
    clear hx
    go_enter Tryd.func44, Tryd.ntmps44
    go_wp2_with (first | (go_at_call 56; refine HN.out.mono ?_; rintro e wx ⟨rfl, hbx⟩; have HBX := hideIt hbx; clear hbx))
    go_ret2
    exact ⟨rfl, HBX.out⟩
end Go.Proofs.YtjiigdjopcegeaaDoor.Ld
