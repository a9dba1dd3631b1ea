/- The law of what is built, walked. -/
import Derived.Test.YtjiigdjopcegeaaDoorPkLac
import Derived.Test.YtjiigdjopcegeaaDoorPkLbo
namespace Go.Proofs.YtjiigdjopcegeaaDoor.Pk
open Cb Ld Go.RowKit Go.Shelf
theorem cut_small (l : List It) : Small (cutL l) := by
  intro x hx
  simp only [cutL, List.mem_map] at hx
  obtain ⟨y, _, rfl⟩ := hx
  exact ⟨by simp [cut1]; omega, by simp [cut1]; omega⟩
theorem beq_same (S : ByteArray) : (S.toList == S.toList) = true := by simp
theorem row_slice {w : World} {v : Value} {l : List It} (h : IRow w v l) : ∃ a c, v = .slice a l.length c := by
  obtain ⟨a, c, h1, _⟩ := h
  exact ⟨a, c, h1⟩
set_option maxHeartbeats 3200000 in
set_option maxRecDepth 100000 in
theorem builds_law (v : Value) (l0 : List It) (w : World) (h : IRow w v l0) (hs : ∀ x ∈ l0, x.b.length ≤ maxLen ∧ x.d.length ≤ maxLen) (hK : Sa.KAt w) : Calls Tryd.prog 3 #[v] w fun e w' => e = .returned (.bool true) ∧ Below w.heap.size w w' := by
  have HC := hideIt (cut_any v l0 w h hs)
  have HKW := hideIt (fun w' (hb : Below w.heap.size w w') => Sa.K_below hb (Sa.K_pos hK) hK)
  have hsm := cut_small l0
  have hln := cutL_len l0
  have HCT : Hid (∀ e w', CutTo w l0 e w' → ∃ v1 v2, e = .returned (.tuple #[v1, v2]) ∧ w'.ownsRow w.heap.size 37 3 v1 (cutL l0).length (itsV (cutL l0)) ∧ w'.ownsRow w.heap.size 38 3 v2 (cutL l0).length (itsV (cutL l0)) ∧ Below w.heap.size w w') := hideIt (fun _ _ h => h)
  obtain ⟨l, hl⟩ : ∃ l, cutL l0 = l := ⟨_, rfl⟩
  rw [hl] at hsm hln HCT
  have HB := hideIt (fun v w h hk => build_any v l w h hk (by omega) (fun x hx => by have := (hsm x hx).1; omega) (body_small l hsm (by omega)))
  have HRB := hideIt (fun v w h => refbuild_any v l w h (by omega) (fun x hx => by have := (hsm x hx).1; omega) (body_small l hsm (by omega)))
  have HA := hideIt (awake_any)
  have HSC := hideIt (fun w hk => scan_any (packL l) w hk (pack_len l hsm (by omega)))
  have HRS := hideIt (fun w => refscan_any (packL l) w (pack_len l hsm (by omega)))
  have HBV : Hid (bldV l = if allOk l = true then .tuple #[.string (bs (packL l)), .int .i64 0] else .tuple #[.string ⟨#[]⟩, .int .i64 1]) := hideIt rfl
  cases ha : allOk l with
  | false =>
    have HV : Hid (bldV l = .tuple #[.string ⟨#[]⟩, .int .i64 1]) := hideIt (by rw [HBV.out, ha]; rfl)
    rw [HV.out] at HB HRB
    clear hl ha hK h hs hsm HSC HRS
    go_enter Tryd.func3, Tryd.ntmps3
    go_wp2_with (first
      | (go_at_call 6; refine HC.out.mono ?_; rintro e w1 hct; obtain ⟨v1, v2, rfl, hr1, hr2, hb1⟩ := HCT.out _ _ hct; have R1 := hideIt (IRow.of_row hr1); have R2 := hideIt (IRow.of_row hr2); have B1 := hideIt hb1; clear hct hr1 hr2 hb1)
      | (go_at_call 7; refine (HB.out _ _ R1.out (HKW.out _ B1.out)).mono ?_; rintro e w2 ⟨rfl, hb2⟩; have B2 := hideIt (below2 B1.out hb2); have R22 := hideIt (R2.out.below hb2); clear hb2)
      | (go_at_call 8; refine (HRB.out _ _ R22.out).mono ?_; rintro e w3 ⟨rfl, hb3⟩; have B3 := hideIt (below2 B2.out hb3); clear hb3)
      | (go_at_call 9; refine (HA.out _ (HKW.out _ B3.out)).mono ?_; rintro e w4 ⟨rfl, hb4⟩; have B4 := hideIt (below2 B3.out hb4); clear hb4))
    go_ret
    exact ⟨rfl, B4.out⟩
  | true =>
    have HV : Hid (bldV l = .tuple #[.string (bs (packL l)), .int .i64 0]) := hideIt (by rw [HBV.out, ha]; rfl)
    rw [HV.out] at HB HRB
    rw [scan_back spreads_P hsm (by omega) ha] at HSC
    rw [scan_back spreads_R hsm (by omega) ha] at HRS
    have HPA := hideIt (placed_at l (13 + (Cd.numL l.length).length))
    have hpl := placed_len l (13 + (Cd.numL l.length).length)
    generalize bs (packL l) = P at HB HRB HSC HRS
    generalize placed (13 + (Cd.numL l.length).length) l = PL at HSC HRS HPA hpl
    have hP := beq_same P
    obtain ⟨n, hn⟩ : ∃ n, l.length = n := ⟨_, rfl⟩
    rw [hn] at hpl hln
    have HN := hideIt (And.intro hn hpl)
    have nI : (n : Int) ≤ 20 := by omega
    clear hl ha hK h hs hsm hpl hn
    go_enter Tryd.func3, Tryd.ntmps3
    go_wp2_with (first
      | (go_at_call 6; refine HC.out.mono ?_; rintro e w1 hct; obtain ⟨v1, v2, rfl, hr1, hr2, hb1⟩ := HCT.out _ _ hct; have R1 := hideIt (IRow.of_row hr1); have R2 := hideIt (IRow.of_row hr2); have B1 := hideIt hb1; clear hct hr1 hr2 hb1)
      | (go_at_call 7; refine (HB.out _ _ R1.out (HKW.out _ B1.out)).mono ?_; rintro e w2 ⟨rfl, hb2⟩; have B2 := hideIt (below2 B1.out hb2); have R22 := hideIt (R2.out.below hb2); have R12 := hideIt (R1.out.below hb2); clear hb2)
      | (go_at_call 8; refine (HRB.out _ _ R22.out).mono ?_; rintro e w3 ⟨rfl, hb3⟩; have B3 := hideIt (below2 B2.out hb3); have R13 := hideIt (R12.out.below hb3); clear hb3)
      | (go_at_call 9; refine (HA.out _ (HKW.out _ B3.out)).mono ?_; rintro e w4 ⟨rfl, hb4⟩; have B4 := hideIt (below2 B3.out hb4); have R14 := hideIt (R13.out.below hb4); clear hb4)
      | (go_at_call 10; refine (HSC.out _ (HKW.out _ B4.out)).mono ?_; rintro e w5 ⟨v5, rfl, hv5, hb5⟩; have B5 := hideIt (below2 B4.out hb5); have R15 := hideIt (R14.out.below hb5); have K5 := hideIt (IRow.of_row hv5); clear hb5 hv5)
      | (go_at_call 11; refine (HRS.out _).mono ?_; rintro e w6 ⟨v6, rfl, hv6, hb6⟩; have B6 := hideIt (below2 B5.out hb6); have R16 := hideIt (R15.out.below hb6); have K6 := hideIt (K5.out.below hb6); have M6 := hideIt (IRow.of_row hv6); clear hb6 hv6; obtain ⟨a1, c1, e1⟩ := row_slice R16.out; obtain ⟨a5, c5, e5⟩ := row_slice K6.out; obtain ⟨a6, c6, e6⟩ := row_slice M6.out; rw [HN.out.1] at e1; rw [HN.out.2] at e5 e6; subst e1; subst e5; subst e6))
    go_loopw [13] (fun ti wr => ∃ i q : Nat, i ≤ n ∧ ti = .int .i64 (i : Int) ∧ wr = w6.drewN q) (fun ti _ => n - (intOf ti).toNat)
    case atStart => exact ⟨0, 0, by omega, rfl, rfl⟩
    case round =>
      obtain ⟨i, q, hi, rfl, rfl⟩ := hrel
      by_cases hlt : i < n
      · have hid : decide ((i : Int) < (n : Int)) = true := decide_eq_true (by omega)
        have i1 : (i : Int) < (n : Int) := by omega
        obtain ⟨x, hxi⟩ : ∃ x, l[i]? = some x := ⟨l[i]'(by rw [HN.out.1]; exact hlt), by simp⟩
        obtain ⟨pz, hpz⟩ := HPA.out i x hxi
        obtain ⟨_, _, d1, _, _, r1⟩ := R16.out
        obtain ⟨g1, o1, e1, hc1⟩ := r1 (by rw [HN.out.1]; omega)
        obtain ⟨_, _, d5, _, _, r5⟩ := K6.out
        obtain ⟨g5, o5, e5, hc5⟩ := r5 (by rw [HN.out.2]; omega)
        obtain ⟨_, _, d6, _, _, r6⟩ := M6.out
        obtain ⟨g6, o6, e6, hc6⟩ := r6 (by rw [HN.out.2]; omega)
        simp only [Value.slice.injEq] at d1 d5 d6
        rw [← d1.1] at e1
        rw [← d5.1] at e5
        rw [← d6.1] at e6
        subst e1
        subst e5
        subst e6
        obtain ⟨x0, x1, x2⟩ := hc1.2 i x hxi
        obtain ⟨y0, y1, y2⟩ := hc5.2 i _ hpz
        obtain ⟨z0, z1, z2⟩ := hc6.2 i _ hpz
        dsimp only at y0 y1 y2 z0 z1 z2
        have q1 := beq_same (bs x.b)
        have q2 := beq_same (bs x.d)
        generalize bs x.b = XB at x0 y0 z0 q1
        generalize bs x.d = XD at x1 y1 z1 q2
        clear hc1 hc5 hc6 r1 r5 r6 d1 d5 d6 hxi hpz
        go_wp2
        go_quiet (fail)
        go_wp2
        go_roundw
        case rel => exact ⟨i + 1, _, by omega, by go_num, rfl⟩
        case measure => simp [intOf]; omega
      · have hid : decide ((i : Int) < (n : Int)) = false := decide_eq_false (by omega)
        go_wp2
        go_ret
        exact ⟨rfl, B6.out.trans ⟨rfl, rfl, rfl, Nat.le_refl _, fun _ _ => rfl⟩⟩
end Go.Proofs.YtjiigdjopcegeaaDoor.Pk
