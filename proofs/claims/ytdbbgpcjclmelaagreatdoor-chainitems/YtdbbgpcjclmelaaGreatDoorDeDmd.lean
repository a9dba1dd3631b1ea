/- The steps of a delta, read: readNumber, readPut, readStep, walked. -/
import Derived.Test.YtdbbgpcjclmelaaGreatDoorDeDmc
import Derived.Test.YtdbbgpcjclmelaaGreatDoorCbUnnumw
namespace Go.Proofs.YtdbbgpcjclmelaaGreatDoor.De
open Cb
open Go.RowKit
namespace Dl
/-- Bytes that are put: they, what is behind them, the error. -/
def rdP (L : List UInt8) (n : Nat) : List UInt8 × List UInt8 × Nat := if L.length < n then ([], [], 4) else (L.take n, L.drop n, 0)
/-- Bytes of the base, from a place on. -/
def rdT (B R : List UInt8) (p n : Nat) : List UInt8 × List UInt8 × Nat :=
  if B.length < p ∨ B.length - p < n then ([], [], 6) else ((B.drop p).take n, R, 0)
/-- One step: its numbers first. -/
def rd (B L : List UInt8) (left : Nat) : List UInt8 × List UInt8 × Nat :=
  if (nm L).2.2 ≠ 0 then ([], [], (nm L).2.2)
  else if (nm L).1 % 2 = 1 then
    (if (nm (nm L).2.1).2.2 ≠ 0 then ([], [], (nm (nm L).2.1).2.2) else if left ≤ (nm L).1 / 2 then ([], [], 6) else rdT B (nm (nm L).2.1).2.1 (nm (nm L).2.1).1 ((nm L).1 / 2 + 1))
  else if left ≤ (nm L).1 / 2 then ([], [], 6) else rdP (nm L).2.1 ((nm L).1 / 2 + 1)
theorem unL_small : ∀ (k i c : Nat) (l : List UInt8), (Cd.unL k i c l).2.2 ≤ 6
  | 0, _, _, _ => by simp [Cd.unL]
  | k + 1, _, _, [] => by simp [Cd.unL]
  | k + 1, i, c, b :: t => by
    rw [Cd.unL]
    split
    · simp
    · exact unL_small k _ _ t
theorem nm_small (L : List UInt8) : (nm L).2.2 ≤ 6 := unL_small 9 0 0 L
end Dl
def trio (r : List UInt8 × List UInt8 × Nat) : Value := .tuple #[.string (bs r.1), .string (bs r.2.1), .int .i64 (r.2.2 : Int)]
theorem take9 (s : ByteArray) (n : Nat) : bs (s.data.toList.take n) = s.extract 0 n := by
  rw [← bs_data (s.extract 0 n), data_mid9, List.drop_zero, Nat.sub_zero]
theorem drop9 (s : ByteArray) (n : Nat) : bs (s.data.toList.drop n) = s.extract n s.size := by
  rw [← bs_data (s.extract n s.size), data_rest9]
set_option maxHeartbeats 400000 in
set_option maxRecDepth 100000 in
theorem readPut_any (s : ByteArray) (n : Nat) (w : World) (hs : s.size ≤ 100000000) :
    Calls Tryz.prog 157 #[.string s, .int .i64 (n : Int)] w fun e w' => e = .returned (trio (Dl.rdP s.data.toList n)) ∧ ∃ q, w' = w.drewN q := by
  have si : (s.size : Int) ≤ 100000000 := by omega
  by_cases h : s.size < n
  · have h1 : (s.size : Int) < (n : Int) := by omega
    have e : Dl.rdP s.data.toList n = ([], [], 4) := by rw [Dl.rdP, str_len, if_pos h]
    rw [e]
    clear e
    go_enter Tryz.func157, Tryz.ntmps157
    go_wp2
    (try simp only [Exit.inBlock, Exit.then])
    refine bodyPost_ret (v := trio ([], [], 4)) ?_ rfl ⟨rfl, 0, rfl⟩
    rw [results_tmp3 rfl]
    rfl
  · have h1 : ¬ (s.size : Int) < (n : Int) := by omega
    have h2 : (n : Int) ≤ (s.size : Int) := by omega
    have e : Dl.rdP s.data.toList n = (s.data.toList.take n, s.data.toList.drop n, 0) := by rw [Dl.rdP, str_len, if_neg h]
    rw [e, trio]
    simp only
    rw [take9, drop9]
    obtain ⟨P, hP⟩ : ∃ P, s.extract 0 n = P := ⟨_, rfl⟩
    obtain ⟨R, hR⟩ : ∃ P, s.extract n s.size = P := ⟨_, rfl⟩
    rw [hP, hR]
    clear e
    go_enter Tryz.func157, Tryz.ntmps157
    go_wp2
    go_quiet (fail)
    go_wp2
    (try simp only [Exit.inBlock, Exit.then])
    refine bodyPost_ret (v := .tuple #[.string P, .string R, .int .i64 0]) ?_ rfl ⟨rfl, _, rfl⟩
    rw [results_tmp3 rfl]
    go_simp
def numV (r : Nat × List UInt8 × Nat) : Value := .tuple #[.int .u64 (r.1 : Int), .string (bs r.2.1), .int .i64 (r.2.2 : Int)]
set_option maxHeartbeats 400000 in
set_option maxRecDepth 100000 in
theorem readNumber_any (s : ByteArray) (w : World) (hs : s.size ≤ 100000000) :
    Calls Tryz.prog 122 #[.string s] w fun e w' => e = .returned (numV (Dl.nm s.data.toList)) ∧ ∃ q, w' = w.drewN q := by
  obtain ⟨L, hL⟩ : ∃ L, s.data.toList = L := ⟨_, rfl⟩
  have HU := hideIt (unnum_any s w hs)
  have hk := Dl.unnum_k L
  rw [hL] at HU
  have hLs : L.length = s.size := by rw [← hL, str_len]
  have hrd : Dl.nm L = ((Cd.unnum L).1, L.drop (Cd.unnum L).2.1, (Cd.unnum L).2.2) := rfl
  rw [hL, hrd]
  obtain ⟨p, k, z, hu⟩ : ∃ n k z, Cd.unnum L = (n, k, z) := ⟨_, _, _, rfl⟩
  rw [hu] at HU hk ⊢
  simp only at hk ⊢
  rw [hLs] at hk
  have k1 : (k : Int) ≤ (s.size : Int) := by omega
  have s8 : (s.size : Int) ≤ 100000000 := by omega
  rw [numV]
  simp only
  rw [← hL, drop9]
  obtain ⟨R, hR⟩ : ∃ P, s.extract k s.size = P := ⟨_, rfl⟩
  rw [hR]
  clear hu hL hLs hrd
  go_enter Tryz.func122, Tryz.ntmps122
  go_wp2_with (go_at_call 68; refine HU.out.mono ?_; rintro e w1 ⟨rfl, hw1⟩; obtain rfl := hw1.symm; simp only [unV])
  go_quiet (fail)
  go_wp2
  (try simp only [Exit.inBlock, Exit.then])
  refine bodyPost_ret (v := .tuple #[.int .u64 (p : Int), .string R, .int .i64 (z : Int)]) ?_ rfl ⟨rfl, _, rfl⟩
  rw [results_tmp3 rfl]
  go_simp
theorem take9b (s : ByteArray) (k n : Nat) : bs ((s.data.toList.drop k).take n) = (s.extract k s.size).extract 0 n := by
  rw [← bs_data ((s.extract k s.size).extract 0 n), data_mid9, List.drop_zero, Nat.sub_zero, data_rest9]
set_option maxHeartbeats 1600000 in
set_option maxRecDepth 100000 in
theorem readStep_any (b s : ByteArray) (left : Nat) (w : World) (hb : b.size ≤ 100000000) (hs : s.size ≤ 100000000) (hl : left ≤ 100000000) :
    Calls Tryz.prog 124 #[.string b, .string s, .int .i64 (left : Int)] w fun e w' => e = .returned (trio (Dl.rd b.data.toList s.data.toList left)) ∧ ∃ q, w' = w.drewN q := by
  obtain ⟨B, hB⟩ : ∃ L, b.data.toList = L := ⟨_, rfl⟩
  obtain ⟨L, hL⟩ : ∃ L, s.data.toList = L := ⟨_, rfl⟩
  have HN := hideIt (readNumber_any s w hs)
  have hz := Dl.nm_small L
  have hlt := Dl.nm_lt L
  have hln := Dl.nm_len L
  rw [hL] at HN
  have hLs : L.length = s.size := by rw [← hL, str_len]
  have hBs : B.length = b.size := by rw [← hB, str_len]
  rw [hB, hL]
  have hrd : Dl.rd B L left = if (Dl.nm L).2.2 ≠ 0 then ([], [], (Dl.nm L).2.2)
    else if (Dl.nm L).1 % 2 = 1 then
      (if (Dl.nm (Dl.nm L).2.1).2.2 ≠ 0 then ([], [], (Dl.nm (Dl.nm L).2.1).2.2) else if left ≤ (Dl.nm L).1 / 2 then ([], [], 6) else Dl.rdT B (Dl.nm (Dl.nm L).2.1).2.1 (Dl.nm (Dl.nm L).2.1).1 ((Dl.nm L).1 / 2 + 1))
    else if left ≤ (Dl.nm L).1 / 2 then ([], [], 6) else Dl.rdP (Dl.nm L).2.1 ((Dl.nm L).1 / 2 + 1) := rfl
  rw [hrd]
  obtain ⟨p, R, z, hu⟩ : ∃ n k z, Dl.nm L = (n, k, z) := ⟨_, _, _, rfl⟩
  rw [hu] at HN hz hlt hln ⊢
  simp only [numV] at HN
  simp only at hz hlt hln ⊢
  have li : (left : Int) ≤ 100000000 := by omega
  have lw : IntKind.u64.wrap (left : Int) = (left : Int) := by simp [IntKind.wrap, IntKind.bits, IntKind.signed]; omega
  have s8 : (s.size : Int) ≤ 100000000 := by omega
  obtain ⟨h, hh⟩ : ∃ h, p / 2 = h := ⟨_, rfl⟩
  have h2 : (p : Int) / 2 = (h : Int) := by omega
  rw [hh]
  obtain ⟨X, hX⟩ : ∃ X, bs R = X := ⟨_, rfl⟩
  have hXd : X.data.toList = R := by rw [← hX, bs_list]
  have hXs : X.size ≤ 100000000 := by rw [← str_len, hXd]; omega
  rw [hX] at HN
  obtain ⟨r, hr⟩ : ∃ r, p % 2 = r := ⟨_, rfl⟩
  have r1 : (p : Int) % 2 = (r : Int) := by omega
  rw [hr]
  by_cases h0 : z = 0
  · subst h0
    rw [if_neg (by simp)]
    by_cases h3 : r = 1
    · rw [if_pos h3]
      have r2 : ((r : Int) == 1) = true := by rw [h3]; rfl
      have HN2 := hideIt (fun w => readNumber_any X w hXs)
      rw [hXd] at HN2
      have hz2 := Dl.nm_small R
      have hlt2 := Dl.nm_lt R
      obtain ⟨p2, R2, z2, hu2⟩ : ∃ n k z, Dl.nm R = (n, k, z) := ⟨_, _, _, rfl⟩
      rw [hu2] at HN2 hz2 hlt2 ⊢
      simp only [numV] at HN2
      simp only at hz2 hlt2 ⊢
      obtain ⟨X2, hX2⟩ : ∃ X, bs R2 = X := ⟨_, rfl⟩
      rw [hX2] at HN2
      by_cases h02 : z2 = 0
      · subst h02
        rw [if_neg (by simp)]
        by_cases h1 : left ≤ h
        · rw [if_pos h1]
          have c1 : (left : Int) ≤ (h : Int) := by omega
          clear hu hB hL hLs hBs hh hrd hX hXd hr hu2 hX2 h3
          go_enter Tryz.func124, Tryz.ntmps124
          go_wp2_with (first | (go_at_call_of 122 (Value.string s); refine HN.out.mono ?_; rintro e w1 ⟨rfl, q1, hw1⟩; obtain rfl := hw1.symm) | (go_at_call 122; refine (HN2.out _).mono ?_; rintro e w2 ⟨rfl, q2, hw2⟩; obtain rfl := hw2.symm))
          (try simp only [Exit.inBlock, Exit.then])
          refine bodyPost_ret (v := trio ([], [], 6)) ?_ rfl ⟨rfl, _, rfl⟩
          rw [results_tmp3 rfl]
          rfl
        · rw [if_neg h1]
          have c1 : ¬ (left : Int) ≤ (h : Int) := by omega
          have h8 : (h : Int) ≤ 100000000 := by omega
          obtain ⟨n, hn⟩ : ∃ n, h + 1 = n := ⟨_, rfl⟩
          have n1 : (h : Int) + 1 = (n : Int) := by omega
          have ni : (n : Int) ≤ 100000001 := by omega
          rw [hn]
          have bi : (b.size : Int) ≤ 100000000 := by omega
          have bw : IntKind.u64.wrap (b.size : Int) = (b.size : Int) := by simp [IntKind.wrap, IntKind.bits, IntKind.signed]; omega
          unfold Dl.rdT
          rw [hBs]
          by_cases h4 : b.size < p2 ∨ b.size - p2 < n
          · rw [if_pos h4]
            by_cases h5 : b.size < p2
            · have c2 : (b.size : Int) < (p2 : Int) := by omega
              clear hu hB hL hLs hBs hh hrd hX hXd hr hu2 hX2 h3 hn h4
              go_enter Tryz.func124, Tryz.ntmps124
              go_wp2_with (first | (go_at_call_of 122 (Value.string s); refine HN.out.mono ?_; rintro e w1 ⟨rfl, q1, hw1⟩; obtain rfl := hw1.symm) | (go_at_call 122; refine (HN2.out _).mono ?_; rintro e w2 ⟨rfl, q2, hw2⟩; obtain rfl := hw2.symm))
              (try simp only [Exit.inBlock, Exit.then])
              refine bodyPost_ret (v := trio ([], [], 6)) ?_ rfl ⟨rfl, _, rfl⟩
              rw [results_tmp3 rfl]
              rfl
            · have c2 : ¬ (b.size : Int) < (p2 : Int) := by omega
              obtain ⟨d, hd⟩ : ∃ d, b.size - p2 = d := ⟨_, rfl⟩
              have d1 : (b.size : Int) - (p2 : Int) = (d : Int) := by omega
              have d2 : (d : Int) < (n : Int) := by omega
              have p8 : (p2 : Int) ≤ 100000000 := by omega
              clear hu hB hL hLs hBs hh hrd hX hXd hr hu2 hX2 h3 hn h4 hd
              go_enter Tryz.func124, Tryz.ntmps124
              go_wp2_with (first | (go_at_call_of 122 (Value.string s); refine HN.out.mono ?_; rintro e w1 ⟨rfl, q1, hw1⟩; obtain rfl := hw1.symm) | (go_at_call 122; refine (HN2.out _).mono ?_; rintro e w2 ⟨rfl, q2, hw2⟩; obtain rfl := hw2.symm))
              (try simp only [Exit.inBlock, Exit.then])
              refine bodyPost_ret (v := trio ([], [], 6)) ?_ rfl ⟨rfl, _, rfl⟩
              rw [results_tmp3 rfl]
              rfl
          · rw [if_neg h4]
            have c2 : ¬ (b.size : Int) < (p2 : Int) := by omega
            obtain ⟨d, hd⟩ : ∃ d, b.size - p2 = d := ⟨_, rfl⟩
            have d1 : (b.size : Int) - (p2 : Int) = (d : Int) := by omega
            have d2 : ¬ (d : Int) < (n : Int) := by omega
            have d3 : (p2 : Int) ≤ (b.size : Int) := by omega
            have p8 : (p2 : Int) ≤ 100000000 := by omega
            rw [trio]
            simp only
            rw [← hB, take9b, hX2]
            obtain ⟨Y, hY⟩ : ∃ X, b.extract p2 b.size = X := ⟨_, rfl⟩
            have hYs : Y.size = d := by rw [← hY, ByteArray.size_extract]; omega
            have x1 : (n : Int) ≤ (Y.size : Int) := by omega
            rw [hY]
            obtain ⟨P, hP⟩ : ∃ P, Y.extract 0 n = P := ⟨_, rfl⟩
            rw [hP]
            have HX := hideIt hYs
            clear hu hB hL hLs hBs hh hrd hX hXd hr hu2 hX2 h3 hn h4 hd hYs
            go_enter Tryz.func124, Tryz.ntmps124
            go_wp2_with (first | (go_at_call_of 122 (Value.string s); refine HN.out.mono ?_; rintro e w1 ⟨rfl, q1, hw1⟩; obtain rfl := hw1.symm) | (go_at_call 122; refine (HN2.out _).mono ?_; rintro e w2 ⟨rfl, q2, hw2⟩; obtain rfl := hw2.symm))
            go_wp2
            (try simp only [Exit.inBlock, Exit.then])
            refine bodyPost_ret (v := .tuple #[.string P, .string X2, .int .i64 0]) ?_ rfl ⟨rfl, _, rfl⟩
            rw [results_tmp3 rfl]
            go_simp
      · rw [if_pos h02]
        have z1 : ¬ (z2 : Int) = 0 := by omega
        have z3 : ((z2 : Int) == 0) = false := beq_eq_false_iff_ne.2 z1
        clear hu hB hL hLs hBs hh hrd hX hXd hr hu2 hX2 h3
        go_enter Tryz.func124, Tryz.ntmps124
        go_wp2_with (first | (go_at_call_of 122 (Value.string s); refine HN.out.mono ?_; rintro e w1 ⟨rfl, q1, hw1⟩; obtain rfl := hw1.symm) | (go_at_call 122; refine (HN2.out _).mono ?_; rintro e w2 ⟨rfl, q2, hw2⟩; obtain rfl := hw2.symm))
        (try simp only [Exit.inBlock, Exit.then])
        refine bodyPost_ret (v := trio ([], [], z2)) ?_ rfl ⟨rfl, _, rfl⟩
        rw [results_tmp3 rfl]
        rfl
    · rw [if_neg h3]
      have r2 : ((r : Int) == 1) = false := by rw [beq_eq_false_iff_ne]; omega
      have r3 : ¬ (r : Int) = 1 := by omega
      by_cases h1 : left ≤ h
      · rw [if_pos h1]
        have c1 : (left : Int) ≤ (h : Int) := by omega
        clear hu hB hL hLs hBs hh hrd hX hXd hr h3
        go_enter Tryz.func124, Tryz.ntmps124
        go_wp2_with (go_at_call_of 122 (Value.string s); refine HN.out.mono ?_; rintro e w1 ⟨rfl, q1, hw1⟩; obtain rfl := hw1.symm)
        (try simp only [Exit.inBlock, Exit.then])
        refine bodyPost_ret (v := trio ([], [], 6)) ?_ rfl ⟨rfl, _, rfl⟩
        rw [results_tmp3 rfl]
        rfl
      · rw [if_neg h1]
        have c1 : ¬ (left : Int) ≤ (h : Int) := by omega
        have h8 : (h : Int) ≤ 100000000 := by omega
        obtain ⟨n, hn⟩ : ∃ n, h + 1 = n := ⟨_, rfl⟩
        have n1 : (h : Int) + 1 = (n : Int) := by omega
        rw [hn]
        have HP := hideIt (fun w => readPut_any X n w hXs)
        rw [hXd] at HP
        obtain ⟨⟨T1, T2, T3⟩, hT⟩ : ∃ T, Dl.rdP R n = T := ⟨_, rfl⟩
        rw [hT] at HP ⊢
        clear hu hB hL hLs hBs hh hrd hX hXd hr h3 hT hn
        go_enter Tryz.func124, Tryz.ntmps124
        go_wp2_with (first | (go_at_call_of 122 (Value.string s); refine HN.out.mono ?_; rintro e w1 ⟨rfl, q1, hw1⟩; obtain rfl := hw1.symm) | (go_at_call 157; refine (HP.out _).mono ?_; rintro e w2 ⟨rfl, q, hw2⟩; obtain rfl := hw2.symm; simp only [trio]))
        (try simp only [Exit.inBlock, Exit.then])
        refine bodyPost_ret (v := trio (T1, T2, T3)) ?_ rfl ⟨rfl, _, rfl⟩
        rw [results_tmp3 rfl]
        rfl
  · rw [if_pos h0]
    have z1 : ¬ (z : Int) = 0 := by omega
    have z2 : ((z : Int) == 0) = false := beq_eq_false_iff_ne.2 z1
    clear hu hB hL hLs hBs hh hrd hX hXd hr
    go_enter Tryz.func124, Tryz.ntmps124
    go_wp2_with (go_at_call_of 122 (Value.string s); refine HN.out.mono ?_; rintro e w1 ⟨rfl, q1, hw1⟩; obtain rfl := hw1.symm)
    (try simp only [Exit.inBlock, Exit.then])
    refine bodyPost_ret (v := trio ([], [], z)) ?_ rfl ⟨rfl, _, rfl⟩
    rw [results_tmp3 rfl]
    rfl
end Go.Proofs.YtdbbgpcjclmelaaGreatDoor.De
