/- The law ObjectCommits, walked. -/
import Derived.Test.YtmjffngpaoaflaaGreatDoorOo
import Derived.Test.YtmjffngpaoaflaaGreatDoorOsm
import Derived.Test.YtmjffngpaoaflaaGreatDoorOi
namespace Go.Proofs.YtmjffngpaoaflaaGreatDoor
namespace Ob
open Go.RowKit Go.Shelf
set_option maxHeartbeats 6400000 in
set_option maxRecDepth 100000 in
theorem commits_law_of (x : Cm) (w : World) (hk : Ok w) (hrow : SRow w x.pv x.ps) (h1 : x.tr.size ≤ maxLen) (h2 : x.au.size ≤ maxLen) (h3 : x.tx.size ≤ maxLen) (h4 : x.tm < 18446744073709551616)
    (hco : ∀ (tr au tx : ByteArray) (tm n m : Nat) (a : Option Addr) (cc : Nat) (w : World), m = min n 6 → n ≤ cc → tr.size ≤ maxLen → au.size ≤ maxLen → tx.size ≤ maxLen → Calls Tryz.prog 13 #[.agg #[.string tr, .slice a n cc, .string au, .int .u64 (tm : Int), .string tx]] w fun e w' => e = .returned (.tuple #[.agg #[.string (fewS tr), .slice a m cc, .string (fewS au), .int .u64 (tm : Int), .string (fewS tx)], .agg #[.string (fewS tr), .slice a m cc, .string (fewS au), .int .u64 (tm : Int), .string (fewS tx)]]) ∧ Below w.heap.size w w') :
    Calls Tryz.prog 4 #[cmV x] w fun e w' => e = .returned (.bool true) ∧ Below w.heap.size w w' := by
  have HOK := hideIt hk
  have HROW := hideIt hrow
  obtain ⟨tr, pv, ps, au, tm, tx⟩ := x
  simp only at *
  obtain ⟨a, cc, hpv, hlc, hcm, hcells⟩ := hrow
  subst hpv
  obtain ⟨m, hm⟩ : ∃ m, min ps.length 6 = m := ⟨_, rfl⟩
  have HCO := hideIt (fun w => hco tr au tx tm ps.length m a cc w hm.symm hlc h1 h2 h3)
  have HR6 := hideIt (SRow.take m (by omega) HROW.out)
  have f1 := fewS_size tr
  have f2 := fewS_size au
  have f3 := fewS_size tx
  obtain ⟨tr', htr⟩ : ∃ x, fewS tr = x := ⟨_, rfl⟩
  obtain ⟨au', hau⟩ : ∃ x, fewS au = x := ⟨_, rfl⟩
  obtain ⟨tx', htx⟩ : ∃ x, fewS tx = x := ⟨_, rfl⟩
  obtain ⟨qs, hqs⟩ : ∃ qs, ps.take m = qs := ⟨_, rfl⟩
  have hql : qs.length = m := by rw [← hqs, List.length_take]; omega
  rw [htr, hau, htx] at HCO
  rw [htr] at f1
  rw [hau] at f2
  rw [htx] at f3
  rw [hqs] at HR6
  obtain ⟨n, hn⟩ : ∃ n, ps.length = n := ⟨_, rfl⟩
  rw [hn] at HCO
  unfold cmV
  simp only
  rw [hn]
  have HC := hideIt (fun (w' : World) (hr : SRow w' (.slice a m cc) qs) (hm : MaxAt w') => checkCommit_any ⟨tr', .slice a m cc, qs, au', tm, tx'⟩ w' hr (by simp only; omega) (by simp only; omega) hm)
  have HRC := hideIt (fun (w' : World) (hr : SRow w' (.slice a m cc) qs) => refcheckCommit_any ⟨tr', .slice a m cc, qs, au', tm, tx'⟩ w' hr (by simp only; omega) (by simp only; omega))
  have HP := hideIt (fun (w' : World) (hr : SRow w' (.slice a m cc) qs) (hk : Ok w') => putCommit_any ⟨tr', .slice a m cc, qs, au', tm, tx'⟩ w' hr (by simp only; omega) (by simp only; omega) h4 hk)
  have HA := hideIt awake_any
  unfold cmV at HC HRC HP
  simp only at HC HRC HP
  clear htr hau htx hqs hn hcells hcm h1 h2 h3 hk hm hlc hco
  by_cases hz : comE ⟨tr', .slice a m cc, qs, au', tm, tx'⟩ = 0
  · have hpl := putC_len hz h4
    obtain ⟨hg1, hg2⟩ := get_putC hz h4
    have HG : Hid (∀ w, Ok w → Calls Tryz.prog 17 #[.string (bs (putC ⟨tr', .slice a m cc, qs, au', tm, tx'⟩))] w fun e w' => ∃ a6 c6, e = .returned (.tuple #[.agg #[.string tr', .slice a6 m c6, .string au', .int .u64 (tm : Int), .string tx'], .int .i64 0]) ∧ SRow w' (.slice a6 m c6) qs ∧ Below w.heap.size w w') := hideIt (fun w h => by
      refine (getCommit_any (putC ⟨tr', .slice a m cc, qs, au', tm, tx'⟩) w (by omega) h).mono ?_
      rintro e w' ⟨c, rfl, hr, h0, -, hb⟩
      have hc := h0 hg1
      rw [hg2] at hc
      simp only at hc
      rw [hc] at hr ⊢
      simp only at hr
      obtain ⟨a6, c6, hv, -, -, -⟩ := id hr
      rw [hql] at hv
      rw [hv] at hr
      refine ⟨a6, c6, ?_, hr, hb⟩
      rw [hg1]
      unfold cmV
      simp only
      rw [hv])
    have HRP := hideIt (fun (w' : World) (hr : SRow w' (.slice a m cc) qs) => refputCommit_any ⟨tr', .slice a m cc, qs, au', tm, tx'⟩ w' hr hz h4)
    rw [putCR, if_pos hz] at HP
    rw [hz] at HC HRC
    unfold cmV at HRP
    simp only at HRP HP
    obtain ⟨S, hS⟩ : ∃ S, bs (putC ⟨tr', .slice a m cc, qs, au', tm, tx'⟩) = S := ⟨_, rfl⟩
    rw [hS] at HG HRP HP
    have e1 : (S.toList == S.toList) = true := by simp
    clear hpl hS hz hg1 hg2 f1 f2 f3
    go_enter Tryz.func4, Tryz.ntmps4
    go_wp2_with (first
      | (go_at_call 13; refine (HCO.out _).mono ?_; rintro e w1 ⟨rfl, hb1⟩; have HBW : Hid (Below w.heap.size w ((w1.alloc (.cells #[.string tr', .slice a m cc, .string au', .int .u64 (tm : Int), .string tx'] 42)).alloc (.cells #[.string tr', .slice a m cc, .string au', .int .u64 (tm : Int), .string tx'] 43))) := hideIt (below2 (below2 (below2 (new_below _ _) hb1) (new_below _ _)) (new_below _ _)); have HCB : Hid (CBox ((w1.alloc (.cells #[.string tr', .slice a m cc, .string au', .int .u64 (tm : Int), .string tx'] 42)).alloc (.cells #[.string tr', .slice a m cc, .string au', .int .u64 (tm : Int), .string tx'] 43)) w1.heap.size 42 ⟨tr', .slice a m cc, qs, au', tm, tx'⟩) := hideIt (CBox.below ⟨Cb.alloc_at rfl⟩ (new_below _ _)); have HMB : Hid (CBox ((w1.alloc (.cells #[.string tr', .slice a m cc, .string au', .int .u64 (tm : Int), .string tx'] 42)).alloc (.cells #[.string tr', .slice a m cc, .string au', .int .u64 (tm : Int), .string tx'] 43)) (w1.heap.size + 1) 43 ⟨tr', .slice a m cc, qs, au', tm, tx'⟩) := hideIt ⟨Cb.alloc_at (by simp)⟩; clear hb1)
      | (go_at_call 14; refine (HRC.out _ (HR6.out.below HBW.out)).mono ?_; rintro e w2 ⟨rfl, hb2⟩; have P2 := hideIt (HCB.out.below hb2); have Q2 := hideIt (HMB.out.below hb2); have c20 := P2.out.c0; have c21 := P2.out.c1; have c22 := P2.out.c2; have c23 := P2.out.c3; have c24 := P2.out.c4; dsimp only at c20 c21 c22 c23 c24; have HB2 := hideIt (below2 HBW.out hb2); clear hb2)
      | (go_at_call 15; refine (HP.out _ (HR6.out.below HB2.out) (HOK.out.below HB2.out)).mono ?_; rintro e w3 ⟨rfl, hb3⟩; have P3 := hideIt (P2.out.below hb3); have Q3 := hideIt (Q2.out.below hb3); have HB3 := hideIt (below2 HB2.out hb3); clear hb3)
      | (go_at_call 12; refine (HA.out _ (HOK.out.below HB3.out)).mono ?_; rintro e w4 ⟨rfl, hb4⟩; have P4 := hideIt (P3.out.below hb4); have Q4 := hideIt (Q3.out.below hb4); have c40 := P4.out.c0; have c41 := P4.out.c1; have c42 := P4.out.c2; have c43 := P4.out.c3; have c44 := P4.out.c4; dsimp only at c40 c41 c42 c43 c44; have HB4 := hideIt (below2 HB3.out hb4); clear hb4)
      | (go_at_call 16; refine (HC.out _ (HR6.out.below HB4.out) (HOK.out.below HB4.out).max).mono ?_; rintro e w5 ⟨rfl, hb5⟩; have P5 := hideIt (P4.out.below hb5); have Q5 := hideIt (Q4.out.below hb5); have HB5 := hideIt (below2 HB4.out hb5); clear hb5)
      | (go_at_call 17; refine (HG.out _ (HOK.out.below HB5.out)).mono ?_; rintro e w6 ⟨a6, c6, rfl, hr6, hb6⟩; have R6 := hideIt hr6; have Q6 := hideIt ((Q5.out.below hb6).below (new_below w6 (.cells #[.string tr', .slice a6 m c6, .string au', .int .u64 (tm : Int), .string tx'] 42))); have x60 := Q6.out.c0; have x61 := Q6.out.c1; have x62 := Q6.out.c2; have x63 := Q6.out.c3; have x64 := Q6.out.c4; dsimp only at x60 x61 x62 x63 x64; have HB6 := hideIt (below2 (below2 HB5.out hb6) (new_below w6 (.cells #[.string tr', .slice a6 m c6, .string au', .int .u64 (tm : Int), .string tx'] 42))); clear hb6 hr6)
      | (go_at_call 18; refine (HRP.out _ (HR6.out.below HB6.out)).mono ?_; rintro e w7 ⟨rfl, hb7⟩; have Q7 := hideIt (Q6.out.below hb7); have D7 := hideIt (CBox.below (c := ⟨tr', .slice a6 m c6, qs, au', tm, tx'⟩) ⟨Cb.alloc_at rfl⟩ hb7); have x70 := Q7.out.c0; have x71 := Q7.out.c1; have x72 := Q7.out.c2; have x73 := Q7.out.c3; have x74 := Q7.out.c4; have d70 := D7.out.c0; have d71 := D7.out.c1; have d72 := D7.out.c2; have d73 := D7.out.c3; have d74 := D7.out.c4; dsimp only at x70 x71 x72 x73 x74 d70 d71 d72 d73 d74; have HB7 := hideIt (below2 HB6.out hb7); have R7 := hideIt ((R6.out.below (new_below _ _)).below hb7); clear hb7)
      | (go_at_call 19; refine (same_any tr' au' tx' tm qs _ _ _ R7.out (HR6.out.below HB7.out)).mono ?_; rintro e w8 ⟨rfl, hb8⟩; have HB8 := hideIt (below2 HB7.out hb8)))
    go_ret
    exact ⟨rfl, HB8.out⟩
  · rw [putCR, if_neg hz] at HP
    simp only at HP
    obtain ⟨z, hzz⟩ : ∃ z, comE ⟨tr', .slice a m cc, qs, au', tm, tx'⟩ = z := ⟨_, rfl⟩
    rw [hzz] at HC HRC HP hz
    have HP2 : Hid (∀ w', SRow w' (.slice a m cc) qs → Ok w' → Calls Tryz.prog 15 #[.agg #[.string tr', .slice a m cc, .string au', .int .u64 (tm : Int), .string tx']] w' fun e w'' => e = .returned (.tuple #[.string ⟨#[]⟩, .int .i64 z]) ∧ Below w'.heap.size w' w'') := HP
    clear HP
    have z1 : (z != z) = false := by simp
    have z2 : (z != 0) = true := by simpa using hz
    clear hzz f1 f2 f3
    go_enter Tryz.func4, Tryz.ntmps4
    go_wp2_with (first
      | (go_at_call 13; refine (HCO.out _).mono ?_; rintro e w1 ⟨rfl, hb1⟩; have HBW : Hid (Below w.heap.size w ((w1.alloc (.cells #[.string tr', .slice a m cc, .string au', .int .u64 (tm : Int), .string tx'] 42)).alloc (.cells #[.string tr', .slice a m cc, .string au', .int .u64 (tm : Int), .string tx'] 43))) := hideIt (below2 (below2 (below2 (new_below _ _) hb1) (new_below _ _)) (new_below _ _)); have HCB : Hid (CBox ((w1.alloc (.cells #[.string tr', .slice a m cc, .string au', .int .u64 (tm : Int), .string tx'] 42)).alloc (.cells #[.string tr', .slice a m cc, .string au', .int .u64 (tm : Int), .string tx'] 43)) w1.heap.size 42 ⟨tr', .slice a m cc, qs, au', tm, tx'⟩) := hideIt (CBox.below ⟨Cb.alloc_at rfl⟩ (new_below _ _)); have HMB : Hid (CBox ((w1.alloc (.cells #[.string tr', .slice a m cc, .string au', .int .u64 (tm : Int), .string tx'] 42)).alloc (.cells #[.string tr', .slice a m cc, .string au', .int .u64 (tm : Int), .string tx'] 43)) (w1.heap.size + 1) 43 ⟨tr', .slice a m cc, qs, au', tm, tx'⟩) := hideIt ⟨Cb.alloc_at (by simp)⟩; clear hb1)
      | (go_at_call 14; refine (HRC.out _ (HR6.out.below HBW.out)).mono ?_; rintro e w2 ⟨rfl, hb2⟩; have P2 := hideIt (HCB.out.below hb2); have Q2 := hideIt (HMB.out.below hb2); have c20 := P2.out.c0; have c21 := P2.out.c1; have c22 := P2.out.c2; have c23 := P2.out.c3; have c24 := P2.out.c4; dsimp only at c20 c21 c22 c23 c24; have HB2 := hideIt (below2 HBW.out hb2); clear hb2)
      | (go_at_call 15; refine (HP2.out _ (HR6.out.below HB2.out) (HOK.out.below HB2.out)).mono ?_; rintro e w3 ⟨rfl, hb3⟩; have P3 := hideIt (P2.out.below hb3); have Q3 := hideIt (Q2.out.below hb3); have HB3 := hideIt (below2 HB2.out hb3); clear hb3)
      | (go_at_call 12; refine (HA.out _ (HOK.out.below HB3.out)).mono ?_; rintro e w4 ⟨rfl, hb4⟩; have P4 := hideIt (P3.out.below hb4); have Q4 := hideIt (Q3.out.below hb4); have c40 := P4.out.c0; have c41 := P4.out.c1; have c42 := P4.out.c2; have c43 := P4.out.c3; have c44 := P4.out.c4; dsimp only at c40 c41 c42 c43 c44; have HB4 := hideIt (below2 HB3.out hb4); clear hb4)
      | (go_at_call 16; refine (HC.out _ (HR6.out.below HB4.out) (HOK.out.below HB4.out).max).mono ?_; rintro e w5 ⟨rfl, hb5⟩; have P5 := hideIt (P4.out.below hb5); have Q5 := hideIt (Q4.out.below hb5); have HB5 := hideIt (below2 HB4.out hb5); clear hb5))
    go_ret
    exact ⟨rfl, HB5.out⟩
end Ob
end Go.Proofs.YtmjffngpaoaflaaGreatDoor
