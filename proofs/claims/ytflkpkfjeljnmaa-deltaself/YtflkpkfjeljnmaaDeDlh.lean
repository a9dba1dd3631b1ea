/- The law of a text that is made of itself, walked. -/
import Derived.Test.YtflkpkfjeljnmaaDeDlf
namespace Go.Proofs.Ytflkpkfjeljnmaa.De
open Cb
open Go.RowKit
set_option maxHeartbeats 800000 in
set_option maxRecDepth 100000 in
theorem self_law (s more : ByteArray) (w : World) (hs : s.size ≤ maxLen) (hm : more.size ≤ maxLen) :
    Calls Try.prog 4 #[.string s, .string more] w fun e w' => e = .returned (.bool true) ∧ Below w.heap.size w w' := by
  have HF1 := hideIt (fun w => few9_any s w hs)
  have HF2 := hideIt (fun w => few9_any more w hm)
  have f1 := few9_size s
  have f2 := few9_size more
  obtain ⟨t, ht⟩ : ∃ t, few9 s = t := ⟨_, rfl⟩
  obtain ⟨mo, hmo⟩ : ∃ t, few9 more = t := ⟨_, rfl⟩
  rw [ht] at HF1 f1
  rw [hmo] at HF2 f2
  have HW := hideIt awake9_any
  obtain ⟨n, hn⟩ : ∃ n, t.size = n := ⟨_, rfl⟩
  obtain ⟨mn, hmn⟩ : ∃ n, mo.size = n := ⟨_, rfl⟩
  have nI : (t.size : Int) = (n : Int) := by omega
  have mI : (mo.size : Int) = (mn : Int) := by omega
  have nI2 : (n : Int) ≤ 400 := by omega
  have mI2 : (mn : Int) ≤ 400 := by omega
  by_cases h16 : n < 16
  · have c1 : (n : Int) < 16 := by omega
    clear ht hmo hn hmn hs hm f1 f2
    go_enter Try.func4, Try.ntmps4
    go_wp2_with (first | (go_at_call 7; refine (HF1.out _).mono ?_; rintro e wx ⟨rfl, hwx⟩; obtain rfl := hwx.symm) | (go_at_call 9; refine (HW.out _).mono ?_; rintro e w3 ⟨rfl, hb3⟩))
    go_ret
    exact ⟨rfl, hb3⟩
  · have c1 : ¬ (n : Int) < 16 := by omega
    have c2 : (16 : Int) ≤ (n : Int) := by omega
    have c3 : decide ((n : Int) < 16) = false := decide_eq_false c1
    obtain ⟨T, hT⟩ : ∃ T, t.data.toList = T := ⟨_, rfl⟩
    obtain ⟨Q, hQ⟩ : ∃ T, mo.data.toList = T := ⟨_, rfl⟩
    have lT : T.length = n := by rw [← hT, str_len, hn]
    have lQ : Q.length = mn := by rw [← hQ, str_len, hmn]
    have eT : bs T = t := by rw [← hT, bs_data]
    have eQ : bs (T ++ Q) = t ++ mo := by rw [← bs_data (t ++ mo), cat_data, hT, hQ]
    obtain ⟨q, hq⟩ : ∃ q, 2 * n - 1 = q := ⟨_, rfl⟩
    obtain ⟨n2, hn2⟩ : ∃ q, 2 * n = q := ⟨_, rfl⟩
    obtain ⟨nz, hnz⟩ : ∃ q, n + mn = q := ⟨_, rfl⟩
    obtain ⟨xn, hxn⟩ : ∃ x, bs (Cd.numL n) = x := ⟨_, rfl⟩
    obtain ⟨xq, hxq⟩ : ∃ x, bs (Cd.numL q) = x := ⟨_, rfl⟩
    obtain ⟨x0, hx0⟩ : ∃ x, bs (Cd.numL 0) = x := ⟨_, rfl⟩
    obtain ⟨xz, hxz⟩ : ∃ x, bs (Cd.numL nz) = x := ⟨_, rfl⟩
    have G1 := hideIt (fun w => refnum_any q w (by omega))
    have G2 := hideIt (fun w => refnum_any n w (by omega))
    have G3 := hideIt (fun w => refnum_any nz w (by omega))
    have G0 : Hid (∀ w : World, Calls Try.prog 11 #[.int .u64 0] w fun e w' => e = .returned (.string (bs (Cd.numL 0))) ∧ Below w.heap.size w w') := hideIt (fun w => refnum_any 0 w (by omega))
    rw [hxq] at G1
    rw [hxn] at G2
    rw [hxz] at G3
    rw [hx0] at G0
    have HM1 := hideIt (fun w => make_any T T w (by omega) (by omega))
    have HM2 := hideIt (fun w => make_any (T ++ Q) T w (by rw [List.length_append]; omega) (by omega))
    have e1 : bs (Dl.make T T) = xn ++ xn ++ (xq ++ x0) := by
      have := Dl.make_self T [] (by omega)
      rw [List.append_nil] at this
      rw [this, lT, hq, List.length_nil, Nat.add_zero, ← bs_catD, ← bs_catD, ← bs_catD, hxn, hxq, hx0]
    have e2 : bs (Dl.make (T ++ Q) T) = xz ++ xn ++ (xq ++ x0) := by
      rw [Dl.make_self T Q (by omega), lT, lQ, hq, hnz, ← bs_catD, ← bs_catD, ← bs_catD, hxn, hxq, hx0, hxz]
    rw [e1, eT] at HM1
    rw [e2, eT, eQ] at HM2
    have sn : xn.size ≤ 5 := by rw [bsz hxn]; exact numL_four n (by omega)
    have sq : xq.size ≤ 5 := by rw [bsz hxq]; exact numL_four q (by omega)
    have s0 : x0.size ≤ 5 := by rw [bsz hx0]; exact numL_four 0 (by omega)
    have szz : xz.size ≤ 5 := by rw [bsz hxz]; exact numL_four nz (by omega)
    have t1 : ¬ 9223372036854775807 < xq.size + x0.size := by omega
    have t2 : ¬ 9223372036854775807 < xn.size + xn.size := by omega
    have t3 : ¬ 9223372036854775807 < xn.size + xn.size + (xq.size + x0.size) := by omega
    obtain ⟨u, hu⟩ : ∃ u, t ++ mo = u := ⟨_, rfl⟩
    rw [hu] at HM2
    have t4 : ¬ 9223372036854775807 < t.size + mo.size := by omega
    have t5 : ¬ 9223372036854775807 < xz.size + xn.size := by omega
    have t6 : ¬ 9223372036854775807 < xz.size + xn.size + (xq.size + x0.size) := by omega
    have u1 : (2 : Int) * (n : Int) = (n2 : Int) := by omega
    have u2 : (n2 : Int) - 1 = (q : Int) := by omega
    have u3 : (n2 : Int) ≤ 800 := by omega
    have u4 : (q : Int) ≤ 800 := by omega
    have u5 : (n : Int) + (mn : Int) = (nz : Int) := by omega
    have u6 : (nz : Int) ≤ 800 := by omega
    have v1 : ((xn ++ xn ++ (xq ++ x0)).toList == (xn ++ xn ++ (xq ++ x0)).toList) = true := by simp
    have v2 : ((xz ++ xn ++ (xq ++ x0)).toList == (xz ++ xn ++ (xq ++ x0)).toList) = true := by simp
    have B0 : Hid (Below w.heap.size w w) := hideIt (Below.refl _ _)
    clear ht hmo hn hmn hs hm f1 f2 hT hQ lT lQ eT eQ hq hn2 hnz hxn hxq hx0 hxz e1 e2 sn sq s0 szz
    go_enter Try.func4, Try.ntmps4
    go_wp2_with (first | (go_at_call 7; refine (HF1.out _).mono ?_; rintro e wx ⟨rfl, hwx⟩; obtain rfl := hwx.symm))
    go_loopw [6] (fun i wr => ∃ k : Nat, i = .int .i64 k ∧ k ≤ n ∧ Below w.heap.size w wr) (fun i _ => n - (intOf i).toNat)
    case atStart => exact ⟨16, rfl, by omega, B0.out⟩
    case round =>
      obtain ⟨k, rfl, hk, hr⟩ := hrel
      have HR := hideIt hr
      have HRD := hideIt (fun q => hr.trans (c := wr.drewN q) ⟨rfl, rfl, rfl, Nat.le_refl _, fun _ _ => rfl⟩)
      clear hr
      obtain ⟨k6, hk6⟩ : ∃ k6, k + 16 = k6 := ⟨_, rfl⟩
      have k1 : (k : Int) + 16 = (k6 : Int) := by omega
      have k2 : (k6 : Int) ≤ 500 := by omega
      have k3 : (k : Int) ≤ (k6 : Int) := by omega
      have HK := hideIt hk6
      by_cases hle : k6 ≤ n
      · have d1 : (k6 : Int) ≤ (n : Int) := by omega
        obtain ⟨F, hF⟩ : ∃ F, t.extract k k6 = F := ⟨_, rfl⟩
        obtain ⟨G, hG⟩ : ∃ F, t.extract 0 16 = F := ⟨_, rfl⟩
        by_cases hc : F.toList = G.toList
        · have q1 : (F.toList == G.toList) = true := by rw [hc]; simp
          clear hk6 hc
          go_wp2
          go_quiet (fail)
          go_wp2_with (first | (go_at_call 9; refine (HW.out _).mono ?_; rintro e w3 ⟨rfl, hb3⟩))
          go_ret
          exact ⟨rfl, below2 (HRD.out _) hb3⟩
        · have q1 : (F.toList == G.toList) = false := beq_eq_false_iff_ne.2 hc
          clear hk6
          go_wp2
          go_quiet (fail)
          go_wp2
          go_roundw
          case rel => exact ⟨k6, rfl, by omega, HRD.out _⟩
          case measure => have := HK.out; simp [intOf]; omega
      · have d1 : ¬ (k6 : Int) ≤ (n : Int) := by omega
        clear hk6 B0
        go_wp2_with (first | (go_at_call 7; refine (HF2.out _).mono ?_; rintro e wx ⟨rfl, hwx⟩; obtain rfl := hwx.symm) | (go_at_call 9; refine (HW.out _).mono ?_; rintro e w3 ⟨rfl, hb3⟩; have HR := hideIt (below2 HR.out hb3); clear hb3) | (go_at_call_of 11 (Value.int IntKind.u64 (q : Int)); refine (G1.out _).mono ?_; rintro e w3 ⟨rfl, hb3⟩; have HR := hideIt (below2 HR.out hb3); clear hb3) | (go_at_call_of 11 (Value.int IntKind.u64 (n : Int)); refine (G2.out _).mono ?_; rintro e w3 ⟨rfl, hb3⟩; have HR := hideIt (below2 HR.out hb3); clear hb3) | (go_at_call_of 11 (Value.int IntKind.u64 (nz : Int)); refine (G3.out _).mono ?_; rintro e w3 ⟨rfl, hb3⟩; have HR := hideIt (below2 HR.out hb3); clear hb3) | (go_at_call 11; refine (G0.out _).mono ?_; rintro e w3 ⟨rfl, hb3⟩; have HR := hideIt (below2 HR.out hb3); clear hb3) | (go_at_call_of 6 (Value.string u); refine (HM2.out _).mono ?_; rintro e w3 ⟨rfl, hb3⟩; have HR := hideIt (below2 HR.out hb3); clear hb3) | (go_at_call 6; refine (HM1.out _).mono ?_; rintro e w3 ⟨rfl, hb3⟩; have HR := hideIt (below2 HR.out hb3); clear hb3))
        go_ret
        exact ⟨rfl, HR.out⟩
end Go.Proofs.Ytflkpkfjeljnmaa.De
