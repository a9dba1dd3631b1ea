/- The law of texts that come again and again, walked. -/
import Derived.Test.YtmohnlebkppgfaaLdLonew
import Derived.Test.YtmohnlebkppgfaaLdFewl
namespace Go.Proofs.Ytmohnlebkppgfaa.Ld
open Cb
open Go.RowKit
set_option maxHeartbeats 400000 in
theorem clos_rep (k : Nat) (w : World) (hk : k ≤ 100000000) : Calls Try.prog 12 #[.int .i64 (k : Int)] w fun e w' => e = .returned (.string (bs (Cd.numL k))) ∧ Below w.heap.size w w' := by
  have HN := hideIt (fun w => refnum_any k w (by omega))
  obtain ⟨x, hx⟩ : ∃ x, bs (Cd.numL k) = x := ⟨_, rfl⟩
  rw [hx] at HN ⊢
  have kI : (k : Int) ≤ 100000000 := by omega
  clear hx
  go_enter Try.func12, Try.ntmps12
  go_wp2_with (first | (go_at_call 13; refine (HN.out _).mono ?_; rintro e w1 ⟨rfl, hb1⟩))
  go_ret
  exact ⟨rfl, hb1⟩
theorem first_data (s : ByteArray) (k : Nat) : (s.extract 0 k).size ≤ k := by rw [ByteArray.size_extract]; omega
set_option maxHeartbeats 1600000 in
set_option maxRecDepth 100000 in
theorem repeats_long (s t0 t : ByteArray) (times : Int) (w : World) (hs : s.size ≤ maxLen) (h0 : fewS s = t0) (hcut : 60 < t0.size ∧ t0.extract 0 60 = t) (ht60 : t.size ≤ 60) :
    Calls Try.prog 4 #[.string s, .int .i64 times] w fun e w' => e = .returned (.bool true) ∧ Below w.heap.size w w' := by
  have HF := hideIt (fun w => few_any s w hs)
  rw [h0] at HF
  have h600 := fewS_size s
  rw [h0] at h600
  obtain ⟨j, hj, hj8⟩ : ∃ j : Nat, times % 64 = (j : Int) ∧ j < 64 := ⟨(times % 64).toNat, by omega, by omega⟩
  have b1 := i64_and63 times
  rw [hj] at b1
  obtain ⟨n, hn⟩ : ∃ n, j + 2 = n := ⟨_, rfl⟩
  have n1 : (j : Int) + 2 = (n : Int) := by omega
  have nI : (n : Int) ≤ 66 := by omega
  have jI : (j : Int) < 64 := by omega
  have HNN := hideIt (And.intro hn hj8)
  have HA := hideIt awake_any
  obtain ⟨T, hT⟩ : ∃ T, t.data.toList = T := ⟨_, rfl⟩
  have hTl : T.length = t.size := by rw [← hT, str_len]
  have HT := hideIt (And.intro hT hTl)
  have c1 : (60 : Int) < (t0.size : Int) := by omega
  have c2 := hcut.2
  have c3 : (t0.size : Int) ≤ 600 := by omega
  have HCT := hideIt hcut
  clear hj hn hj8 hT hTl h0 hcut
  go_enter Try.func4, Try.ntmps4
  go_wp2_with (first | (go_at_call 8; refine (HF.out _).mono ?_; rintro e wx ⟨rfl, hwx⟩; obtain rfl := hwx.symm))
  go_loopw [7, 8] (fun a v wr => ∃ (i : Nat) (A : ByteArray), i ≤ n ∧ v = .int .i64 i ∧ a = .string A ∧ A.data.toList = Lz.again T i ∧ wr = w) (fun _ v _ => n - (intOf v).toNat)
  case atStart => exact ⟨0, ⟨#[]⟩, by omega, rfl, rfl, by simp [Lz.again], rfl⟩
  case round =>
    obtain ⟨i, A, hi, rfl, rfl, hA, hwr⟩ := hrel
    obtain rfl := hwr
    have asz : A.size = i * t.size := by rw [← str_len, hA, Lz.again_len, HT.out.2]
    have asz2 : A.size ≤ 66 * 60 := by
      rw [asz]
      exact Nat.mul_le_mul (by have := HNN.out; omega) ht60
    by_cases hlt : i < n
    · have hid : decide ((i : Int) < (n : Int)) = true := decide_eq_true (by omega)
      have t1 : ¬ 9223372036854775807 < A.size + t.size := by omega
      have HE : Hid ((A ++ t).data.toList = Lz.again T (i + 1)) := hideIt (by rw [cat_data, hA, HT.out.1]; rfl)
      clear hA asz
      go_wp2
      go_roundw
      case rel => exact ⟨i + 1, A ++ t, by omega, by go_num, rfl, HE.out, by first | rfl | trivial⟩
      case measure => simp [intOf]; omega
    · have hid : decide ((i : Int) < (n : Int)) = false := decide_eq_false (by omega)
      obtain rfl : i = n := by omega
      have HPR := hideIt (fun w => press_any A w (by omega))
      obtain ⟨P, hP⟩ : ∃ P, bs (Lz.press A.data.toList) = P := ⟨_, rfl⟩
      obtain ⟨la, hla⟩ : ∃ l, A.size = l := ⟨_, rfl⟩
      obtain ⟨lt, hlt2⟩ : ∃ l, t.size = l := ⟨_, rfl⟩
      have HSP := hideIt (fun w => spread_again A.data.toList P (la : Int) w hP (by rw [str_len]; omega) (by rw [str_len, hla]; omega))
      rw [hP] at HPR
      rw [bs_data] at HSP
      have aI : (A.size : Int) = (la : Int) := by rw [hla]
      have tI : (t.size : Int) = (lt : Int) := by rw [hlt2]
      have laI : (la : Int) ≤ 3960 := by omega
      have ltI : (lt : Int) ≤ 60 := by omega
      have q1 : (A.toList == A.toList) = true := by simp
      have HB : Hid (Below wr.heap.size wr wr) := hideIt (Below.refl _ _)
      have HNL : Hid (wr.heap.size ≤ wr.heap.size) := hideIt (Nat.le_refl _)
      by_cases hlone : Lz.Lone T
      · have HLO := hideIt (fun w => lone_any t true w ht60 ⟨fun _ => by rw [HT.out.1]; exact hlone, fun _ => rfl⟩)
        obtain ⟨d, hd⟩ : ∃ d, la - lt = d := ⟨_, rfl⟩
        obtain ⟨d4, hd4⟩ : ∃ d4, d - 4 = d4 := ⟨_, rfl⟩
        have hl4 : 4 ≤ lt := by have := hlone.1; rw [HT.out.2, hlt2] at this; exact this
        have hn2 : 2 ≤ i := by have := HNN.out; omega
        have hbig : 2 * lt ≤ la := by rw [← hla, asz, hlt2]; exact Nat.mul_le_mul_right _ hn2
        have d1 : (la : Int) - (lt : Int) = (d : Int) := by omega
        have d2 : (d : Int) - 4 = (d4 : Int) := by omega
        have dI : (d : Int) ≤ 3960 := by omega
        have H1 := hideIt (fun w => clos_rep la w (by omega))
        have H2 := hideIt (fun w => clos_rep lt w (by omega))
        have H3 := hideIt (fun w => clos_rep d4 w (by omega))
        obtain ⟨X, hX⟩ : ∃ X, bs (Cd.numL la) = X := ⟨_, rfl⟩
        obtain ⟨Y, hY⟩ : ∃ X, bs (Cd.numL lt) = X := ⟨_, rfl⟩
        obtain ⟨Z, hZ⟩ : ∃ X, bs (Cd.numL d4) = X := ⟨_, rfl⟩
        have sX : X.size ≤ 4 := by rw [← hX, bs_size]; exact numL_small _ (by omega)
        have sY : Y.size ≤ 4 := by rw [← hY, bs_size]; exact numL_small _ (by omega)
        have sZ : Z.size ≤ 4 := by rw [← hZ, bs_size]; exact numL_small _ (by omega)
        rw [hX] at H1
        rw [hY] at H2
        rw [hZ] at H3
        have t1 : ¬ 9223372036854775807 < X.size + Y.size := by omega
        have t2 : ¬ 9223372036854775807 < X.size + Y.size + t.size := by omega
        have t3 : ¬ 9223372036854775807 < X.size + Y.size + t.size + Y.size := by omega
        have t4 : ¬ 9223372036854775807 < X.size + Y.size + t.size + Y.size + Z.size := by omega
        have t2' : ¬ 9223372036854775807 < X.size + Y.size + lt := by omega
        have t3' : ¬ 9223372036854775807 < X.size + Y.size + lt + Y.size := by omega
        have t4' : ¬ 9223372036854775807 < X.size + Y.size + lt + Y.size + Z.size := by omega
        have hPW : P = X ++ Y ++ t ++ Y ++ Z := by
          have hpa := Lz.press_again T (i - 2) hlone (by rw [HT.out.2]; omega)
          rw [show i - 2 + 2 = i by omega, ← hA, str_len, hla, HT.out.2, hlt2, hd, hd4] at hpa
          rw [← hP, ← bs_data (X ++ Y ++ t ++ Y ++ Z), hpa]
          simp only [cat_data, ← hX, ← hY, ← hZ, bs_list, HT.out.1]
        have q3 : (P.toList == (X ++ Y ++ t ++ Y ++ Z).toList) = true := by rw [← hPW]; simp
        clear hA asz hP hla hlt2 hd hd4 hl4 hn2 hbig hX hY hZ hPW hlone
        go_wp2_with (first | (go_at_call_of 12 (Value.int IntKind.i64 (la : Int)); refine (H1.out _).mono ?_; rintro e wn ⟨rfl, hbn⟩; have HBN := hideIt (below_step HB.out HNL.out hbn); clear HB hbn; have HB := HBN; clear HBN) | (go_at_call_of 12 (Value.int IntKind.i64 (lt : Int)); refine (H2.out _).mono ?_; rintro e wn ⟨rfl, hbn⟩; have HBN := hideIt (below_step HB.out HNL.out hbn); clear HB hbn; have HB := HBN; clear HBN) | (go_at_call_of 12 (Value.int IntKind.i64 (d4 : Int)); refine (H3.out _).mono ?_; rintro e wn ⟨rfl, hbn⟩; have HBN := hideIt (below_step HB.out HNL.out hbn); clear HB hbn; have HB := HBN; clear HBN) | (go_at_call 7; refine (HPR.out _).mono ?_; rintro e wn ⟨rfl, hbn⟩; have HBN := hideIt (below_step HB.out HNL.out hbn); clear HB hbn; have HB := HBN; clear HBN) | (go_at_call 9; refine (HSP.out _).mono ?_; rintro e wn ⟨rfl, hbn⟩; have HBN := hideIt (below_step HB.out HNL.out hbn); clear HB hbn; have HB := HBN; clear HBN) | (go_at_call 10; refine (HA.out _).mono ?_; rintro e wn ⟨rfl, hbn⟩; have HBN := hideIt (below_step HB.out HNL.out hbn); clear HB hbn; have HB := HBN; clear HBN) | (go_at_call 14; refine (HLO.out _).mono ?_; rintro e wn ⟨rfl, hbn⟩; have HBN := hideIt (below_step HB.out HNL.out hbn); clear HB hbn; have HB := HBN; clear HBN))
        go_ret
        exact ⟨rfl, HB.out⟩
      · have HLO := hideIt (fun w => lone_any t false w ht60 ⟨fun h => absurd h (by decide), fun h => absurd (HT.out.1 ▸ h) hlone⟩)
        clear hA asz hP hla hlt2 hlone
        go_wp2_with (first | (go_at_call 7; refine (HPR.out _).mono ?_; rintro e wn ⟨rfl, hbn⟩; have HBN := hideIt (below_step HB.out HNL.out hbn); clear HB hbn; have HB := HBN; clear HBN) | (go_at_call 9; refine (HSP.out _).mono ?_; rintro e wn ⟨rfl, hbn⟩; have HBN := hideIt (below_step HB.out HNL.out hbn); clear HB hbn; have HB := HBN; clear HBN) | (go_at_call 10; refine (HA.out _).mono ?_; rintro e wn ⟨rfl, hbn⟩; have HBN := hideIt (below_step HB.out HNL.out hbn); clear HB hbn; have HB := HBN; clear HBN) | (go_at_call 14; refine (HLO.out _).mono ?_; rintro e wn ⟨rfl, hbn⟩; have HBN := hideIt (below_step HB.out HNL.out hbn); clear HB hbn; have HB := HBN; clear HBN))
        go_ret
        exact ⟨rfl, HB.out⟩
set_option maxHeartbeats 1600000 in
set_option maxRecDepth 100000 in
theorem repeats_short (s t0 t : ByteArray) (times : Int) (w : World) (hs : s.size ≤ maxLen) (h0 : fewS s = t0) (hcut : t0.size ≤ 60 ∧ t0 = t) (ht60 : t.size ≤ 60) :
    Calls Try.prog 4 #[.string s, .int .i64 times] w fun e w' => e = .returned (.bool true) ∧ Below w.heap.size w w' := by
  have HF := hideIt (fun w => few_any s w hs)
  rw [h0] at HF
  have h600 := fewS_size s
  rw [h0] at h600
  obtain ⟨j, hj, hj8⟩ : ∃ j : Nat, times % 64 = (j : Int) ∧ j < 64 := ⟨(times % 64).toNat, by omega, by omega⟩
  have b1 := i64_and63 times
  rw [hj] at b1
  obtain ⟨n, hn⟩ : ∃ n, j + 2 = n := ⟨_, rfl⟩
  have n1 : (j : Int) + 2 = (n : Int) := by omega
  have nI : (n : Int) ≤ 66 := by omega
  have jI : (j : Int) < 64 := by omega
  have HNN := hideIt (And.intro hn hj8)
  have HA := hideIt awake_any
  obtain ⟨T, hT⟩ : ∃ T, t.data.toList = T := ⟨_, rfl⟩
  have hTl : T.length = t.size := by rw [← hT, str_len]
  have HT := hideIt (And.intro hT hTl)
  have c1 : ¬ (60 : Int) < (t0.size : Int) := by omega
  obtain ⟨c0, c2'⟩ := hcut
  have c2 := c2'.symm
  clear c2'
  have c3 : (t0.size : Int) ≤ 600 := by omega
  subst c2
  have hcut : True := trivial
  have HCT := hideIt hcut
  clear hj hn hj8 hT hTl h0 hcut
  go_enter Try.func4, Try.ntmps4
  go_wp2_with (first | (go_at_call 8; refine (HF.out _).mono ?_; rintro e wx ⟨rfl, hwx⟩; obtain rfl := hwx.symm))
  go_loopw [7, 8] (fun a v wr => ∃ (i : Nat) (A : ByteArray), i ≤ n ∧ v = .int .i64 i ∧ a = .string A ∧ A.data.toList = Lz.again T i ∧ wr = w) (fun _ v _ => n - (intOf v).toNat)
  case atStart => exact ⟨0, ⟨#[]⟩, by omega, rfl, rfl, by simp [Lz.again], rfl⟩
  case round =>
    obtain ⟨i, A, hi, rfl, rfl, hA, hwr⟩ := hrel
    obtain rfl := hwr
    have asz : A.size = i * t.size := by rw [← str_len, hA, Lz.again_len, HT.out.2]
    have asz2 : A.size ≤ 66 * 60 := by
      rw [asz]
      exact Nat.mul_le_mul (by have := HNN.out; omega) ht60
    by_cases hlt : i < n
    · have hid : decide ((i : Int) < (n : Int)) = true := decide_eq_true (by omega)
      have t1 : ¬ 9223372036854775807 < A.size + t.size := by omega
      have HE : Hid ((A ++ t).data.toList = Lz.again T (i + 1)) := hideIt (by rw [cat_data, hA, HT.out.1]; rfl)
      clear hA asz
      go_wp2
      go_roundw
      case rel => exact ⟨i + 1, A ++ t, by omega, by go_num, rfl, HE.out, by first | rfl | trivial⟩
      case measure => simp [intOf]; omega
    · have hid : decide ((i : Int) < (n : Int)) = false := decide_eq_false (by omega)
      obtain rfl : i = n := by omega
      have HPR := hideIt (fun w => press_any A w (by omega))
      obtain ⟨P, hP⟩ : ∃ P, bs (Lz.press A.data.toList) = P := ⟨_, rfl⟩
      obtain ⟨la, hla⟩ : ∃ l, A.size = l := ⟨_, rfl⟩
      obtain ⟨lt, hlt2⟩ : ∃ l, t.size = l := ⟨_, rfl⟩
      have HSP := hideIt (fun w => spread_again A.data.toList P (la : Int) w hP (by rw [str_len]; omega) (by rw [str_len, hla]; omega))
      rw [hP] at HPR
      rw [bs_data] at HSP
      have aI : (A.size : Int) = (la : Int) := by rw [hla]
      have tI : (t.size : Int) = (lt : Int) := by rw [hlt2]
      have laI : (la : Int) ≤ 3960 := by omega
      have ltI : (lt : Int) ≤ 60 := by omega
      have q1 : (A.toList == A.toList) = true := by simp
      have HB : Hid (Below wr.heap.size wr wr) := hideIt (Below.refl _ _)
      have HNL : Hid (wr.heap.size ≤ wr.heap.size) := hideIt (Nat.le_refl _)
      by_cases hlone : Lz.Lone T
      · have HLO := hideIt (fun w => lone_any t true w ht60 ⟨fun _ => by rw [HT.out.1]; exact hlone, fun _ => rfl⟩)
        obtain ⟨d, hd⟩ : ∃ d, la - lt = d := ⟨_, rfl⟩
        obtain ⟨d4, hd4⟩ : ∃ d4, d - 4 = d4 := ⟨_, rfl⟩
        have hl4 : 4 ≤ lt := by have := hlone.1; rw [HT.out.2, hlt2] at this; exact this
        have hn2 : 2 ≤ i := by have := HNN.out; omega
        have hbig : 2 * lt ≤ la := by rw [← hla, asz, hlt2]; exact Nat.mul_le_mul_right _ hn2
        have d1 : (la : Int) - (lt : Int) = (d : Int) := by omega
        have d2 : (d : Int) - 4 = (d4 : Int) := by omega
        have dI : (d : Int) ≤ 3960 := by omega
        have H1 := hideIt (fun w => clos_rep la w (by omega))
        have H2 := hideIt (fun w => clos_rep lt w (by omega))
        have H3 := hideIt (fun w => clos_rep d4 w (by omega))
        obtain ⟨X, hX⟩ : ∃ X, bs (Cd.numL la) = X := ⟨_, rfl⟩
        obtain ⟨Y, hY⟩ : ∃ X, bs (Cd.numL lt) = X := ⟨_, rfl⟩
        obtain ⟨Z, hZ⟩ : ∃ X, bs (Cd.numL d4) = X := ⟨_, rfl⟩
        have sX : X.size ≤ 4 := by rw [← hX, bs_size]; exact numL_small _ (by omega)
        have sY : Y.size ≤ 4 := by rw [← hY, bs_size]; exact numL_small _ (by omega)
        have sZ : Z.size ≤ 4 := by rw [← hZ, bs_size]; exact numL_small _ (by omega)
        rw [hX] at H1
        rw [hY] at H2
        rw [hZ] at H3
        have t1 : ¬ 9223372036854775807 < X.size + Y.size := by omega
        have t2 : ¬ 9223372036854775807 < X.size + Y.size + t.size := by omega
        have t3 : ¬ 9223372036854775807 < X.size + Y.size + t.size + Y.size := by omega
        have t4 : ¬ 9223372036854775807 < X.size + Y.size + t.size + Y.size + Z.size := by omega
        have t2' : ¬ 9223372036854775807 < X.size + Y.size + lt := by omega
        have t3' : ¬ 9223372036854775807 < X.size + Y.size + lt + Y.size := by omega
        have t4' : ¬ 9223372036854775807 < X.size + Y.size + lt + Y.size + Z.size := by omega
        have hPW : P = X ++ Y ++ t ++ Y ++ Z := by
          have hpa := Lz.press_again T (i - 2) hlone (by rw [HT.out.2]; omega)
          rw [show i - 2 + 2 = i by omega, ← hA, str_len, hla, HT.out.2, hlt2, hd, hd4] at hpa
          rw [← hP, ← bs_data (X ++ Y ++ t ++ Y ++ Z), hpa]
          simp only [cat_data, ← hX, ← hY, ← hZ, bs_list, HT.out.1]
        have q3 : (P.toList == (X ++ Y ++ t ++ Y ++ Z).toList) = true := by rw [← hPW]; simp
        clear hA asz hP hla hlt2 hd hd4 hl4 hn2 hbig hX hY hZ hPW hlone
        go_wp2_with (first | (go_at_call_of 12 (Value.int IntKind.i64 (la : Int)); refine (H1.out _).mono ?_; rintro e wn ⟨rfl, hbn⟩; have HBN := hideIt (below_step HB.out HNL.out hbn); clear HB hbn; have HB := HBN; clear HBN) | (go_at_call_of 12 (Value.int IntKind.i64 (lt : Int)); refine (H2.out _).mono ?_; rintro e wn ⟨rfl, hbn⟩; have HBN := hideIt (below_step HB.out HNL.out hbn); clear HB hbn; have HB := HBN; clear HBN) | (go_at_call_of 12 (Value.int IntKind.i64 (d4 : Int)); refine (H3.out _).mono ?_; rintro e wn ⟨rfl, hbn⟩; have HBN := hideIt (below_step HB.out HNL.out hbn); clear HB hbn; have HB := HBN; clear HBN) | (go_at_call 7; refine (HPR.out _).mono ?_; rintro e wn ⟨rfl, hbn⟩; have HBN := hideIt (below_step HB.out HNL.out hbn); clear HB hbn; have HB := HBN; clear HBN) | (go_at_call 9; refine (HSP.out _).mono ?_; rintro e wn ⟨rfl, hbn⟩; have HBN := hideIt (below_step HB.out HNL.out hbn); clear HB hbn; have HB := HBN; clear HBN) | (go_at_call 10; refine (HA.out _).mono ?_; rintro e wn ⟨rfl, hbn⟩; have HBN := hideIt (below_step HB.out HNL.out hbn); clear HB hbn; have HB := HBN; clear HBN) | (go_at_call 14; refine (HLO.out _).mono ?_; rintro e wn ⟨rfl, hbn⟩; have HBN := hideIt (below_step HB.out HNL.out hbn); clear HB hbn; have HB := HBN; clear HBN))
        go_ret
        exact ⟨rfl, HB.out⟩
      · have HLO := hideIt (fun w => lone_any t false w ht60 ⟨fun h => absurd h (by decide), fun h => absurd (HT.out.1 ▸ h) hlone⟩)
        clear hA asz hP hla hlt2 hlone
        go_wp2_with (first | (go_at_call 7; refine (HPR.out _).mono ?_; rintro e wn ⟨rfl, hbn⟩; have HBN := hideIt (below_step HB.out HNL.out hbn); clear HB hbn; have HB := HBN; clear HBN) | (go_at_call 9; refine (HSP.out _).mono ?_; rintro e wn ⟨rfl, hbn⟩; have HBN := hideIt (below_step HB.out HNL.out hbn); clear HB hbn; have HB := HBN; clear HBN) | (go_at_call 10; refine (HA.out _).mono ?_; rintro e wn ⟨rfl, hbn⟩; have HBN := hideIt (below_step HB.out HNL.out hbn); clear HB hbn; have HB := HBN; clear HBN) | (go_at_call 14; refine (HLO.out _).mono ?_; rintro e wn ⟨rfl, hbn⟩; have HBN := hideIt (below_step HB.out HNL.out hbn); clear HB hbn; have HB := HBN; clear HBN))
        go_ret
        exact ⟨rfl, HB.out⟩
theorem repeats_law (s : ByteArray) (times : Int) (w : World) (hs : s.size ≤ maxLen) :
    Calls Try.prog 4 #[.string s, .int .i64 times] w fun e w' => e = .returned (.bool true) ∧ Below w.heap.size w w' := by
  by_cases h : 60 < (fewS s).size
  · exact repeats_long s (fewS s) ((fewS s).extract 0 60) times w hs rfl ⟨h, rfl⟩ (first_data _ _)
  · exact repeats_short s (fewS s) (fewS s) times w hs rfl ⟨by omega, rfl⟩ (by omega)
end Go.Proofs.Ytmohnlebkppgfaa.Ld
