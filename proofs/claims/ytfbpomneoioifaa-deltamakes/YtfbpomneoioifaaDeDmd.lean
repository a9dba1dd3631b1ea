/- The steps of a delta, read: readPut, readTaken, readStep, walked. -/
import Derived.Test.YtfbpomneoioifaaDeDmc
import Derived.Test.YtfbpomneoioifaaCbUnnumw
namespace Go.Proofs.Ytfbpomneoioifaa.De
open Cb
open Go.RowKit
namespace Dl
/-- Bytes that are put: they, what is behind them, the error. -/
def rdP (L : List UInt8) (n : Nat) : List UInt8 × List UInt8 × Nat := if L.length < n then ([], [], 4) else (L.take n, L.drop n, 0)
/-- Bytes of the base. -/
def rdT (B L : List UInt8) (n : Nat) : List UInt8 × List UInt8 × Nat :=
  if (nm L).2.2 ≠ 0 then ([], [], (nm L).2.2) else if B.length < (nm L).1 ∨ B.length - (nm L).1 < n then ([], [], 6) else ((B.drop (nm L).1).take n, (nm L).2.1, 0)
/-- One step. -/
def rd (B L : List UInt8) (left : Nat) : List UInt8 × List UInt8 × Nat :=
  if (nm L).2.2 ≠ 0 then ([], [], (nm L).2.2) else if left ≤ (nm L).1 / 2 then ([], [], 6)
  else if (nm L).1 % 2 = 0 then rdP (nm L).2.1 ((nm L).1 / 2 + 1) else rdT B (nm L).2.1 ((nm L).1 / 2 + 1)
theorem unL_small : ∀ (k i c : Nat) (l : List UInt8), (Cd.unL k i c l).2.2 ≤ 6
  | 0, _, _, _ => by simp [Cd.unL]
  | k + 1, _, _, [] => by simp [Cd.unL]
  | k + 1, i, c, b :: t => by
    rw [Cd.unL]
    split
    · simp
    · exact unL_small k _ _ t
theorem nm_small (L : List UInt8) : (nm L).2.2 ≤ 6 := unL_small 9 0 0 L
end Dl
def trio (r : List UInt8 × List UInt8 × Nat) : Value := .tuple #[.string (bs r.1), .string (bs r.2.1), .int .i64 (r.2.2 : Int)]
theorem take9 (s : ByteArray) (n : Nat) : bs (s.data.toList.take n) = s.extract 0 n := by
  rw [← bs_data (s.extract 0 n), data_mid9, List.drop_zero, Nat.sub_zero]
theorem drop9 (s : ByteArray) (n : Nat) : bs (s.data.toList.drop n) = s.extract n s.size := by
  rw [← bs_data (s.extract n s.size), data_rest9]
set_option maxHeartbeats 400000 in
set_option maxRecDepth 100000 in
theorem readPut_any (s : ByteArray) (n : Nat) (w : World) (hs : s.size ≤ 100000000) :
    Calls Try.prog 33 #[.string s, .int .i64 (n : Int)] w fun e w' => e = .returned (trio (Dl.rdP s.data.toList n)) ∧ ∃ q, w' = w.drewN q := by
  have si : (s.size : Int) ≤ 100000000 := by omega
  by_cases h : s.size < n
  · have h1 : (s.size : Int) < (n : Int) := by omega
    have e : Dl.rdP s.data.toList n = ([], [], 4) := by rw [Dl.rdP, str_len, if_pos h]
    rw [e]
    clear e
    go_enter Try.func33, Try.ntmps33
    go_wp2
    (try simp only [Exit.inBlock, Exit.then])
    refine bodyPost_ret (v := trio ([], [], 4)) ?_ rfl ⟨rfl, 0, rfl⟩
    rw [results_tmp3 rfl]
    rfl
  · have h1 : ¬ (s.size : Int) < (n : Int) := by omega
    have h2 : (n : Int) ≤ (s.size : Int) := by omega
    have e : Dl.rdP s.data.toList n = (s.data.toList.take n, s.data.toList.drop n, 0) := by rw [Dl.rdP, str_len, if_neg h]
    rw [e, trio]
    simp only
    rw [take9, drop9]
    obtain ⟨P, hP⟩ : ∃ P, s.extract 0 n = P := ⟨_, rfl⟩
    obtain ⟨R, hR⟩ : ∃ P, s.extract n s.size = P := ⟨_, rfl⟩
    rw [hP, hR]
    clear e
    go_enter Try.func33, Try.ntmps33
    go_wp2
    go_quiet (fail)
    go_wp2
    (try simp only [Exit.inBlock, Exit.then])
    refine bodyPost_ret (v := .tuple #[.string P, .string R, .int .i64 0]) ?_ rfl ⟨rfl, _, rfl⟩
    rw [results_tmp3 rfl]
    go_simp
theorem take9b (s : ByteArray) (k n : Nat) : bs ((s.data.toList.drop k).take n) = (s.extract k s.size).extract 0 n := by
  rw [← bs_data ((s.extract k s.size).extract 0 n), data_mid9, List.drop_zero, Nat.sub_zero, data_rest9]
set_option maxHeartbeats 800000 in
set_option maxRecDepth 100000 in
theorem readTaken_any (b s : ByteArray) (n : Nat) (w : World) (hb : b.size ≤ 100000000) (hs : s.size ≤ 100000000) (hn : n ≤ 100000000) :
    Calls Try.prog 34 #[.string b, .string s, .int .i64 (n : Int)] w fun e w' => e = .returned (trio (Dl.rdT b.data.toList s.data.toList n)) ∧ ∃ q, w' = w.drewN q := by
  obtain ⟨B, hB⟩ : ∃ L, b.data.toList = L := ⟨_, rfl⟩
  obtain ⟨L, hL⟩ : ∃ L, s.data.toList = L := ⟨_, rfl⟩
  have HU := hideIt (unnum_any s w hs)
  have hk := Dl.unnum_k L
  have hz := Dl.nm_small L
  have hlt := Dl.nm_lt L
  rw [hL] at HU
  have hBs : B.length = b.size := by rw [← hB, str_len]
  have hLs : L.length = s.size := by rw [← hL, str_len]
  have hrd : Dl.rdT B L n = if (Cd.unnum L).2.2 ≠ 0 then ([], [], (Cd.unnum L).2.2) else if B.length < (Cd.unnum L).1 ∨ B.length - (Cd.unnum L).1 < n then ([], [], 6) else ((B.drop (Cd.unnum L).1).take n, L.drop (Cd.unnum L).2.1, 0) := rfl
  unfold Dl.nm at hz hlt
  simp only at hz hlt
  rw [hB, hL, hrd]
  obtain ⟨p, k, z, hu⟩ : ∃ n k z, Cd.unnum L = (n, k, z) := ⟨_, _, _, rfl⟩
  rw [hu] at HU hk hz hlt ⊢
  simp only at hz hk hlt ⊢
  rw [hLs] at hk
  rw [hBs]
  have ni : (n : Int) ≤ 100000000 := by omega
  have bi : (b.size : Int) ≤ 100000000 := by omega
  have bw : IntKind.u64.wrap (b.size : Int) = (b.size : Int) := by simp [IntKind.wrap, IntKind.bits, IntKind.signed]; omega
  have k1 : (k : Int) ≤ (s.size : Int) := by omega
  have s8 : (s.size : Int) ≤ 100000000 := by omega
  by_cases h0 : z = 0
  · subst h0
    rw [if_neg (by simp)]
    by_cases h1 : b.size < p ∨ b.size - p < n
    · rw [if_pos h1]
      by_cases h2 : b.size < p
      · have c1 : (b.size : Int) < (p : Int) := by omega
        clear hu hB hL h1 hLs hBs
        go_enter Try.func34, Try.ntmps34
        go_wp2_with (go_at_call 26; refine HU.out.mono ?_; rintro e w1 ⟨rfl, hw1⟩; obtain rfl := hw1.symm; simp only [unV])
        (try simp only [Exit.inBlock, Exit.then])
        refine bodyPost_ret (v := trio ([], [], 6)) ?_ rfl ⟨rfl, 0, rfl⟩
        rw [results_tmp3 rfl]
        rfl
      · have c1 : ¬ (b.size : Int) < (p : Int) := by omega
        obtain ⟨d, hd⟩ : ∃ d, b.size - p = d := ⟨_, rfl⟩
        have d1 : (b.size : Int) - (p : Int) = (d : Int) := by omega
        have d2 : (d : Int) < (n : Int) := by omega
        have p8 : (p : Int) ≤ 100000000 := by omega
        clear hu hB hL h1 hLs hBs hd
        go_enter Try.func34, Try.ntmps34
        go_wp2_with (go_at_call 26; refine HU.out.mono ?_; rintro e w1 ⟨rfl, hw1⟩; obtain rfl := hw1.symm; simp only [unV])
        (try simp only [Exit.inBlock, Exit.then])
        refine bodyPost_ret (v := trio ([], [], 6)) ?_ rfl ⟨rfl, 0, rfl⟩
        rw [results_tmp3 rfl]
        rfl
    · rw [if_neg h1]
      have c1 : ¬ (b.size : Int) < (p : Int) := by omega
      obtain ⟨d, hd⟩ : ∃ d, b.size - p = d := ⟨_, rfl⟩
      have d1 : (b.size : Int) - (p : Int) = (d : Int) := by omega
      have d2 : ¬ (d : Int) < (n : Int) := by omega
      have d3 : (p : Int) ≤ (b.size : Int) := by omega
      have p8 : (p : Int) ≤ 100000000 := by omega
      rw [trio]
      simp only
      rw [← hB, ← hL, take9b, drop9]
      obtain ⟨X, hX⟩ : ∃ X, b.extract p b.size = X := ⟨_, rfl⟩
      have hXs : X.size = d := by rw [← hX, ByteArray.size_extract]; omega
      have x1 : (n : Int) ≤ (X.size : Int) := by omega
      rw [hX]
      obtain ⟨P, hP⟩ : ∃ P, X.extract 0 n = P := ⟨_, rfl⟩
      obtain ⟨R, hR⟩ : ∃ P, s.extract k s.size = P := ⟨_, rfl⟩
      rw [hP, hR]
      have HX := hideIt hXs
      clear hu hB hL h1 hLs hBs hd hXs
      go_enter Try.func34, Try.ntmps34
      go_wp2_with (go_at_call 26; refine HU.out.mono ?_; rintro e w1 ⟨rfl, hw1⟩; obtain rfl := hw1.symm; simp only [unV])
      go_quiet (fail)
      go_wp2
      (try simp only [Exit.inBlock, Exit.then])
      refine bodyPost_ret (v := .tuple #[.string P, .string R, .int .i64 0]) ?_ rfl ⟨rfl, _, rfl⟩
      rw [results_tmp3 rfl]
      go_simp
  · rw [if_pos h0]
    have z1 : ¬ (z : Int) = 0 := by omega
    have z2 : ((z : Int) == 0) = false := beq_eq_false_iff_ne.2 z1
    clear hu hB hL hLs hBs
    go_enter Try.func34, Try.ntmps34
    go_wp2_with (go_at_call 26; refine HU.out.mono ?_; rintro e w1 ⟨rfl, hw1⟩; obtain rfl := hw1.symm; simp only [unV])
    (try simp only [Exit.inBlock, Exit.then])
    refine bodyPost_ret (v := trio ([], [], z)) ?_ rfl ⟨rfl, 0, rfl⟩
    rw [results_tmp3 rfl]
    rfl
set_option maxHeartbeats 800000 in
set_option maxRecDepth 100000 in
theorem readStep_any (b s : ByteArray) (left : Nat) (w : World) (hb : b.size ≤ 100000000) (hs : s.size ≤ 100000000) (hl : left ≤ 100000000) :
    Calls Try.prog 28 #[.string b, .string s, .int .i64 (left : Int)] w fun e w' => e = .returned (trio (Dl.rd b.data.toList s.data.toList left)) ∧ ∃ q, w' = w.drewN q := by
  obtain ⟨B, hB⟩ : ∃ L, b.data.toList = L := ⟨_, rfl⟩
  obtain ⟨L, hL⟩ : ∃ L, s.data.toList = L := ⟨_, rfl⟩
  have HU := hideIt (unnum_any s w hs)
  have hk := Dl.unnum_k L
  have hz := Dl.nm_small L
  have hlt := Dl.nm_lt L
  rw [hL] at HU
  have hLs : L.length = s.size := by rw [← hL, str_len]
  have hrd : Dl.rd B L left = if (Cd.unnum L).2.2 ≠ 0 then ([], [], (Cd.unnum L).2.2) else if left ≤ (Cd.unnum L).1 / 2 then ([], [], 6)
    else if (Cd.unnum L).1 % 2 = 0 then Dl.rdP (L.drop (Cd.unnum L).2.1) ((Cd.unnum L).1 / 2 + 1) else Dl.rdT B (L.drop (Cd.unnum L).2.1) ((Cd.unnum L).1 / 2 + 1) := rfl
  unfold Dl.nm at hz hlt
  simp only at hz hlt
  rw [hB, hL, hrd]
  obtain ⟨p, k, z, hu⟩ : ∃ n k z, Cd.unnum L = (n, k, z) := ⟨_, _, _, rfl⟩
  rw [hu] at HU hk hz hlt ⊢
  simp only at hz hk hlt ⊢
  rw [hLs] at hk
  have li : (left : Int) ≤ 100000000 := by omega
  have lw : IntKind.u64.wrap (left : Int) = (left : Int) := by simp [IntKind.wrap, IntKind.bits, IntKind.signed]; omega
  have k1 : (k : Int) ≤ (s.size : Int) := by omega
  have s8 : (s.size : Int) ≤ 100000000 := by omega
  obtain ⟨h, hh⟩ : ∃ h, p / 2 = h := ⟨_, rfl⟩
  have h2 : (p : Int) / 2 = (h : Int) := by omega
  rw [hh]
  by_cases h0 : z = 0
  · subst h0
    rw [if_neg (by simp)]
    by_cases h1 : left ≤ h
    · rw [if_pos h1]
      have c1 : (left : Int) ≤ (h : Int) := by omega
      clear hu hB hL hLs hh hrd
      go_enter Try.func28, Try.ntmps28
      go_wp2_with (go_at_call 26; refine HU.out.mono ?_; rintro e w1 ⟨rfl, hw1⟩; obtain rfl := hw1.symm; simp only [unV])
      (try simp only [Exit.inBlock, Exit.then])
      refine bodyPost_ret (v := trio ([], [], 6)) ?_ rfl ⟨rfl, 0, rfl⟩
      rw [results_tmp3 rfl]
      rfl
    · rw [if_neg h1]
      have c1 : ¬ (left : Int) ≤ (h : Int) := by omega
      have h8 : (h : Int) ≤ 100000000 := by omega
      obtain ⟨n, hn⟩ : ∃ n, h + 1 = n := ⟨_, rfl⟩
      have n1 : (h : Int) + 1 = (n : Int) := by omega
      rw [hn]
      obtain ⟨r, hr⟩ : ∃ r, p % 2 = r := ⟨_, rfl⟩
      have r1 : (p : Int) % 2 = (r : Int) := by omega
      rw [hr]
      obtain ⟨X, hX⟩ : ∃ X, s.extract k s.size = X := ⟨_, rfl⟩
      have hXd : X.data.toList = L.drop k := by rw [← hX, data_rest9, hL]
      have hXs : X.size ≤ 100000000 := by rw [← hX, ByteArray.size_extract]; omega
      by_cases h3 : r = 0
      · rw [if_pos h3]
        have r2 : (r : Int) = 0 := by omega
        have HP := hideIt (fun w => readPut_any X n w hXs)
        rw [hXd] at HP
        obtain ⟨⟨T1, T2, T3⟩, hT⟩ : ∃ T, Dl.rdP (L.drop k) n = T := ⟨_, rfl⟩
        rw [hT] at HP ⊢
        clear hu hB hL hLs hh hrd hXd hT hn hr
        go_enter Try.func28, Try.ntmps28
        go_wp2_with (first | (go_at_call 26; refine HU.out.mono ?_; rintro e w1 ⟨rfl, hw1⟩; obtain rfl := hw1.symm; simp only [unV]) | (go_at_call 33; refine (HP.out _).mono ?_; rintro e w2 ⟨rfl, q, hw2⟩; obtain rfl := hw2.symm; simp only [trio]))
        (try simp only [Exit.inBlock, Exit.then])
        refine bodyPost_ret (v := trio (T1, T2, T3)) ?_ rfl ⟨rfl, q, rfl⟩
        rw [results_tmp3 rfl]
        rfl
      · rw [if_neg h3]
        have r2 : ¬ (r : Int) = 0 := by omega
        have r3 : ((r : Int) == 0) = false := beq_eq_false_iff_ne.2 r2
        have HP := hideIt (fun w => readTaken_any b X n w hb hXs (by omega))
        rw [hXd, hB] at HP
        obtain ⟨⟨T1, T2, T3⟩, hT⟩ : ∃ T, Dl.rdT B (L.drop k) n = T := ⟨_, rfl⟩
        rw [hT] at HP ⊢
        clear hu hB hL hLs hh hrd hXd hT hn hr
        go_enter Try.func28, Try.ntmps28
        go_wp2_with (first | (go_at_call 26; refine HU.out.mono ?_; rintro e w1 ⟨rfl, hw1⟩; obtain rfl := hw1.symm; simp only [unV]) | (go_at_call 34; refine (HP.out _).mono ?_; rintro e w2 ⟨rfl, q, hw2⟩; obtain rfl := hw2.symm; simp only [trio]))
        (try simp only [Exit.inBlock, Exit.then])
        refine bodyPost_ret (v := trio (T1, T2, T3)) ?_ rfl ⟨rfl, q, rfl⟩
        rw [results_tmp3 rfl]
        rfl
  · rw [if_pos h0]
    have z1 : ¬ (z : Int) = 0 := by omega
    have z2 : ((z : Int) == 0) = false := beq_eq_false_iff_ne.2 z1
    clear hu hB hL hLs hh hrd
    go_enter Try.func28, Try.ntmps28
    go_wp2_with (go_at_call 26; refine HU.out.mono ?_; rintro e w1 ⟨rfl, hw1⟩; obtain rfl := hw1.symm; simp only [unV])
    (try simp only [Exit.inBlock, Exit.then])
    refine bodyPost_ret (v := trio ([], [], z)) ?_ rfl ⟨rfl, 0, rfl⟩
    rw [results_tmp3 rfl]
    rfl
end Go.Proofs.Ytfbpomneoioifaa.De
