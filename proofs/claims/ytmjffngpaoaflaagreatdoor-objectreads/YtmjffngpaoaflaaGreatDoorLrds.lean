/- The law ObjectReads, walked. -/
import Derived.Test.YtmjffngpaoaflaaGreatDoorPc
import Derived.Test.YtmjffngpaoaflaaGreatDoorOsm
import Derived.Test.YtmjffngpaoaflaaGreatDoorOi
namespace Go.Proofs.YtmjffngpaoaflaaGreatDoor
namespace Ob
open Go.RowKit Go.Shelf
theorem flipR {P : Program} {f : Nat} {a : Array Value} {w : World} {v : Value} (h : Calls P f a w fun e w' => e = .returned v ∧ w' = w) : Calls P f a w fun e w' => e = .returned v ∧ w = w' := h.mono fun _ _ h => ⟨h.1, h.2.symm⟩
theorem pars_back : ∀ (f : Nat) (R : List UInt8), (gPs f R).2.2 = true → R = parsL (gPs f R).1 ++ (gPs f R).2.1
  | 0, R, _ => by simp [gPs, parsL]
  | f + 1, R, h => by
    rw [gPs] at h ⊢
    by_cases hw : hasW parentW R = true
    · rw [if_pos hw] at h ⊢
      simp only [Bool.and_eq_true] at h
      obtain ⟨⟨h1, h2⟩, h3⟩ := h
      have b := line_back parentW R h1
      have ih := pars_back f (tkR R) h3
      simp only
      have e : parsL (unhB (tkT parentW R) :: (gPs f (tkR R)).1) = lineL parentW (tkT parentW R) ++ parsL (gPs f (tkR R)).1 := by
        simp only [parsL, List.map_cons, List.flatten_cons]
        rw [(id_back _ h2).2]
      rw [e, List.append_assoc, ← ih]
      exact b
    · rw [if_neg hw]
      simp [parsL]
theorem und_back {L : List UInt8} (h : undO L = true) : Lib.decDigits (undN L) = L ∧ undN L < 18446744073709551616 := by
  unfold undO at h
  unfold undN
  cases hu : Cb.Dd.und L with
  | none => rw [hu] at h; cases h
  | some n =>
    refine ⟨?_, und_lt hu⟩
    simp only [Option.getD_some]
    unfold Cb.Dd.und at hu
    split at hu
    · split at hu
      · rename_i hd
        simp only [Option.some.injEq] at hu
        rw [← hu]
        exact hd
      · cases hu
    · cases hu
/-- What is read has just these bytes. -/
theorem put_getC {L : List UInt8} (h : gCz L = 0) : comE (gCm L) = 0 ∧ putC (gCm L) = L ∧ (gCm L).tm < 18446744073709551616 := by
  unfold gCz at h
  split at h
  · rename_i hg
    refine ⟨h, ?_⟩
    unfold gCo at hg
    simp only [Bool.and_eq_true] at hg
    obtain ⟨⟨⟨⟨⟨h1, h2⟩, h3⟩, h4⟩, h5, h6⟩, h7⟩ := hg
    have b1 := line_back treeW L h1
    have b2 := pars_back _ _ h3
    have b3 := line_back authorW _ h4
    have b4 := line_back timeW _ h5
    have b5 := tx_back _ h7
    have hu := und_back h6
    refine ⟨?_, hu.2⟩
    unfold putC gCm
    simp only
    rw [(id_back _ h2).2, hu.1, bs_list, bs_list]
    conv => rhs; rw [b1, b2, b3, b4, b5]
  · omega
set_option maxHeartbeats 6400000 in
set_option maxRecDepth 100000 in
theorem reads_law (s : ByteArray) (w : World) (hk : Ok w) (hs : s.size ≤ maxLen) :
    Calls Tryz.prog 5 #[.string s] w fun e w' => e = .returned (.bool true) ∧ Below w.heap.size w w' := by
  have HOK := hideIt hk
  have HF := hideIt (fun w => flipR (few_any s w hs))
  have hsz := fewS_size s
  obtain ⟨F, hF⟩ : ∃ F, fewS s = F := ⟨_, rfl⟩
  rw [hF] at HF hsz
  obtain ⟨L, hL⟩ : ∃ L, F = bs L := of_bs F
  have hLl : L.length ≤ 5000 := by rw [← bs_size, ← hL]; exact hsz
  have HG := hideIt (fun w hk => getCommit_any L w (by omega) hk)
  have HR := hideIt (fun w => refgetCommit_any L w (by omega))
  have HA := hideIt awake_any
  have HPG : Hid (gCz L = 0 → comE (gCm L) = 0 ∧ putC (gCm L) = L ∧ (gCm L).tm < 18446744073709551616) := hideIt put_getC
  have HTO : Hid (∀ w e w', GetTo w L e w' → ∃ a k, e = .returned (.tuple #[.agg #[.string (if gCz L = 0 then gCm L else cmZ).tr, .slice a (if gCz L = 0 then gCm L else cmZ).ps.length k, .string (if gCz L = 0 then gCm L else cmZ).au, .int .u64 ((if gCz L = 0 then gCm L else cmZ).tm : Int), .string (if gCz L = 0 then gCm L else cmZ).tx], .int .i64 (gCz L)]) ∧ SRow w' (.slice a (if gCz L = 0 then gCm L else cmZ).ps.length k) (if gCz L = 0 then gCm L else cmZ).ps ∧ Below w.heap.size w w') := hideIt (by
    rintro w e w' ⟨c, rfl, h1, h2, h3, h4⟩
    have hc : c = { (if gCz L = 0 then gCm L else cmZ) with pv := c.pv } := by
      by_cases h0 : gCz L = 0
      · rw [if_pos h0]; exact h2 h0
      · rw [if_neg h0, h3 h0]
    obtain ⟨d, hd⟩ : ∃ d, (if gCz L = 0 then gCm L else cmZ) = d := ⟨_, rfl⟩
    rw [hd] at hc ⊢
    obtain ⟨tr, pv, ps, au, tm, tx⟩ := c
    simp only [Cm.mk.injEq, true_and] at hc
    obtain ⟨rfl, rfl, rfl, rfl, rfl⟩ := hc
    have hr := h1
    obtain ⟨a, k, e, _⟩ := h1
    simp only at e hr
    subst e
    exact ⟨a, k, rfl, hr, h4⟩)
  have HCE : Hid (gCz L = 0 → (if gCz L = 0 then gCm L else cmZ) = gCm L) := hideIt (fun h => if_pos h)
  obtain ⟨c, hc⟩ : ∃ c, (if gCz L = 0 then gCm L else cmZ) = c := ⟨_, rfl⟩
  obtain ⟨z, hz⟩ : ∃ z, gCz L = z := ⟨_, rfl⟩
  rw [hc, hz] at HTO HCE
  rw [hz] at HPG
  rw [← hL] at HG HR
  have HSM := hideIt (fun (w : World) (v1 v2 : Value) (h1 : SRow w v1 c.ps) (h2 : SRow w v2 c.ps) => same_any c.tr c.au c.tx c.tm c.ps v1 v2 w h1 h2)
  unfold cmV at HSM
  simp only at HSM
  have q4 : (F.toList == F.toList) = true := by simp
  have HT : Hid (∀ (w1 : World) (T : TypeId) (v : Value), CBox (w1.alloc (.cells #[.string c.tr, v, .string c.au, .int .u64 (c.tm : Int), .string c.tx] T)) w1.heap.size T ⟨c.tr, v, c.ps, c.au, c.tm, c.tx⟩) := hideIt (fun w1 T v => CBox.new w1 T ⟨c.tr, v, c.ps, c.au, c.tm, c.tx⟩)
  clear hk hs hF hc hz hsz
  by_cases h0 : z = 0
  · subst h0
    have hcg := HCE.out rfl
    obtain ⟨p1, p2, p3⟩ := HPG.out rfl
    rw [← hcg] at p1 p2 p3
    have HP := hideIt (fun (w : World) (v : Value) (hr : SRow w v c.ps) => refputCommit_any { c with pv := v } w hr (by rw [← p1]; rfl) p3)
    have hpp : ∀ v, putC { c with pv := v } = L := fun v => by rw [← p2]; rfl
    simp only [hpp] at HP
    rw [← hL] at HP
    unfold cmV at HP
    simp only at HP
    clear p1 p2 p3 HPG HCE hcg hpp
    obtain ⟨tr, pv, ps, au, tm, tx⟩ := c
    simp only at HTO HSM HP HT
    clear hL
    go_enter Tryz.func5, Tryz.ntmps5
    go_wp2_with (first
      | (go_at_call 8; refine (HF.out _).mono ?_; rintro e w1 ⟨rfl, rfl⟩)
      | (go_at_call 17; refine (HG.out _ HOK.out).mono ?_; intro e w2 hgt; obtain ⟨a2, k2, rfl, hr2, hb2⟩ := HTO.out _ _ _ hgt; have T2 := hideIt (HT.out w2 42 (.slice a2 ps.length k2)); have R2 := hideIt (hr2.below (new_below w2 (.cells #[.string tr, .slice a2 ps.length k2, .string au, .int .u64 (tm : Int), .string tx] 42))); have B2 := hideIt (below2 hb2 (new_below w2 (.cells #[.string tr, .slice a2 ps.length k2, .string au, .int .u64 (tm : Int), .string tx] 42))); clear hgt hr2 hb2)
      | (go_at_call 20; refine (HR.out _).mono ?_; intro e w3 hgt; obtain ⟨a3, k3, rfl, hr3, hb3⟩ := HTO.out _ _ _ hgt; have N3 := hideIt (new_below w3 (.cells #[.string tr, .slice a3 ps.length k3, .string au, .int .u64 (tm : Int), .string tx] 43)); have T3 := hideIt ((T2.out.below hb3).below N3.out); have U3 := hideIt (HT.out w3 43 (.slice a3 ps.length k3)); have R3 := hideIt ((R2.out.below hb3).below N3.out); have S3 := hideIt (hr3.below N3.out); have B3 := hideIt (below2 (below2 B2.out hb3) N3.out); clear hgt hr3 hb3)
      | (go_at_call 12; refine (HA.out _ (HOK.out.below B3.out)).mono ?_; rintro e w4 ⟨rfl, hb4⟩; have T4 := hideIt (T3.out.below hb4); have U4 := hideIt (U3.out.below hb4); have R4 := hideIt (R3.out.below hb4); have S4 := hideIt (S3.out.below hb4); have B4 := hideIt (below2 B3.out hb4); have c40 := T4.out.c0; have c41 := T4.out.c1; have c42 := T4.out.c2; have c43 := T4.out.c3; have c44 := T4.out.c4; have d40 := U4.out.c0; have d41 := U4.out.c1; have d42 := U4.out.c2; have d43 := U4.out.c3; have d44 := U4.out.c4; dsimp only at c40 c41 c42 c43 c44 d40 d41 d42 d43 d44)
      | (go_at_call 19; refine (HSM.out _ _ _ R4.out S4.out).mono ?_; rintro e w5 ⟨rfl, hb5⟩; have U5 := hideIt (U4.out.below hb5); have S5 := hideIt (S4.out.below hb5); have B5 := hideIt (below2 B4.out hb5); have x50 := U5.out.c0; have x51 := U5.out.c1; have x52 := U5.out.c2; have x53 := U5.out.c3; have x54 := U5.out.c4; dsimp only at x50 x51 x52 x53 x54)
      | (go_at_call 18; refine (HP.out _ _ S5.out).mono ?_; rintro e w6 ⟨rfl, hb6⟩))
    go_ret
    exact ⟨rfl, below2 B5.out hb6⟩
  · have z2 : (z != 0) = true := by simpa using h0
    have z1 : (z == z) = true := by simp
    clear HPG HCE hL
    obtain ⟨tr, pv, ps, au, tm, tx⟩ := c
    simp only at HTO HSM HT
    go_enter Tryz.func5, Tryz.ntmps5
    go_wp2_with (first
      | (go_at_call 8; refine (HF.out _).mono ?_; rintro e w1 ⟨rfl, rfl⟩)
      | (go_at_call 17; refine (HG.out _ HOK.out).mono ?_; intro e w2 hgt; obtain ⟨a2, k2, rfl, hr2, hb2⟩ := HTO.out _ _ _ hgt; have T2 := hideIt (HT.out w2 42 (.slice a2 ps.length k2)); have R2 := hideIt (hr2.below (new_below w2 (.cells #[.string tr, .slice a2 ps.length k2, .string au, .int .u64 (tm : Int), .string tx] 42))); have B2 := hideIt (below2 hb2 (new_below w2 (.cells #[.string tr, .slice a2 ps.length k2, .string au, .int .u64 (tm : Int), .string tx] 42))); clear hgt hr2 hb2)
      | (go_at_call 20; refine (HR.out _).mono ?_; intro e w3 hgt; obtain ⟨a3, k3, rfl, hr3, hb3⟩ := HTO.out _ _ _ hgt; have N3 := hideIt (new_below w3 (.cells #[.string tr, .slice a3 ps.length k3, .string au, .int .u64 (tm : Int), .string tx] 43)); have T3 := hideIt ((T2.out.below hb3).below N3.out); have U3 := hideIt (HT.out w3 43 (.slice a3 ps.length k3)); have R3 := hideIt ((R2.out.below hb3).below N3.out); have S3 := hideIt (hr3.below N3.out); have B3 := hideIt (below2 (below2 B2.out hb3) N3.out); clear hgt hr3 hb3)
      | (go_at_call 12; refine (HA.out _ (HOK.out.below B3.out)).mono ?_; rintro e w4 ⟨rfl, hb4⟩; have T4 := hideIt (T3.out.below hb4); have U4 := hideIt (U3.out.below hb4); have R4 := hideIt (R3.out.below hb4); have S4 := hideIt (S3.out.below hb4); have B4 := hideIt (below2 B3.out hb4); have c40 := T4.out.c0; have c41 := T4.out.c1; have c42 := T4.out.c2; have c43 := T4.out.c3; have c44 := T4.out.c4; have d40 := U4.out.c0; have d41 := U4.out.c1; have d42 := U4.out.c2; have d43 := U4.out.c3; have d44 := U4.out.c4; dsimp only at c40 c41 c42 c43 c44 d40 d41 d42 d43 d44)
      | (go_at_call 19; refine (HSM.out _ _ _ R4.out S4.out).mono ?_; rintro e w5 ⟨rfl, hb5⟩; have U5 := hideIt (U4.out.below hb5); have S5 := hideIt (S4.out.below hb5); have B5 := hideIt (below2 B4.out hb5); have x50 := U5.out.c0; have x51 := U5.out.c1; have x52 := U5.out.c2; have x53 := U5.out.c3; have x54 := U5.out.c4; dsimp only at x50 x51 x52 x53 x54))
    go_ret
    exact ⟨rfl, B5.out⟩
end Ob
end Go.Proofs.YtmjffngpaoaflaaGreatDoor
