/- The law of numbers' bytes, walked. -/
import Derived.Test.YtnldocaeaplghaaAwake
import Derived.Test.YtnldocaeaplghaaRefm
import Derived.Deep.RegionHeld3
namespace Go.Proofs.Ytnldocaeaplghaa
open Go.RowKit
theorem flipC {P : Program} {f : Nat} {a : Array Value} {w : World} {v : Value} (h : Calls P f a w fun e w' => e = .returned v ∧ w' = w) : Calls P f a w fun e w' => e = .returned v ∧ w = w' := h.mono fun _ _ h => ⟨h.1, h.2.symm⟩
theorem unL_lt : ∀ (k i c : Nat) (l : List UInt8), k + i ≤ 9 → 127 * c + 128 ≤ 128 * 128 ^ i → (Cd.unL k i c l).1 < 18446744073709551616
  | 0, _, _, _, _, _ => by simp [Cd.unL]
  | _ + 1, _, _, [], _, _ => by simp [Cd.unL]
  | k + 1, i, c, b :: t, hk, hc => by
    have h1 := pow_bound i c (by omega) hc
    have hb := b.toNat_lt
    rw [Cd.unL]
    split
    · simp only; omega
    · exact unL_lt k (i + 1) _ t (by omega) (pow_next i c _ (by omega) hc)
theorem unV_mk (a b c : Nat) : unV (a, b, c) = .tuple #[.int .u64 (a : Int), .int .i64 (b : Int), .int .i64 (c : Int)] := rfl
theorem unV_ok (a b : Nat) : unV (a, b, 0) = .tuple #[.int .u64 (a : Int), .int .i64 (b : Int), .int .i64 0] := rfl
theorem unL_err : ∀ (k i c : Nat) (l : List UInt8), (Cd.unL k i c l).2.2 = 0 ∨ (Cd.unL k i c l).2.2 = 4 ∨ (Cd.unL k i c l).2.2 = 6
  | 0, _, _, _ => by simp [Cd.unL]
  | _ + 1, _, _, [] => by simp [Cd.unL]
  | k + 1, i, c, b :: t => by
    rw [Cd.unL]
    split
    · simp
    · exact unL_err k (i + 1) _ t
theorem unV_err (a b : Nat) (c : Nat) (z : Int) (h : (c : Int) = z) : unV (a, b, c) = .tuple #[.int .u64 (a : Int), .int .i64 (b : Int), .int .i64 z] := by rw [← h]; rfl
theorem unnum_lt (l : List UInt8) : (Cd.unnum l).1 < 18446744073709551616 := unL_lt 9 0 0 l (by omega) (by simp)
set_option maxHeartbeats 800000 in
set_option maxRecDepth 100000 in
theorem num_law (n : Nat) (w : World) (hn : n < 18446744073709551616) :
    Calls Try.prog 5 #[.int .u64 (n : Int)] w fun e w' => e = .returned (.bool true) ∧ Below w.heap.size w w' := by
  obtain ⟨x, hx⟩ : ∃ x, bs (Cd.numL n) = x := ⟨_, rfl⟩
  have HX := hideIt (fun w => num_any n w hn)
  have HR := hideIt (fun w => refnum_any n w hn)
  rw [hx] at HX HR
  have hxs : x.size ≤ 10 := by
    rw [← hx, bs_size, Cd.numL, List.length_reverse, Cd.numR, List.length_cons]
    have := Cd.more_len 9 n (by omega)
    omega
  have HU := hideIt (fun w => unnum_any x w (by omega))
  have HA := hideIt awake_any
  have q1 : (x.toList == x.toList) = true := by simp
  have n64 : (n : Int) < 18446744073709551616 := by omega
  by_cases hbig : n < 9223372036854775808
  · have e1 : Cd.unnum x.data.toList = (n, x.size, 0) := by
      have := Cd.unnum_num n hbig []
      rw [List.append_nil] at this
      rw [← hx, bs_list, this, bs_size]
    rw [e1, unV_ok] at HU
    have b1 : ¬ (9223372036854775808 : Int) ≤ (n : Int) := by omega
    have b2 : decide ((9223372036854775808 : Int) ≤ (n : Int)) = false := decide_eq_false b1
    clear hx e1
    go_enter Try.func5, Try.ntmps5
    go_wp2_with (first | (go_at_call 13; refine (HX.out _).mono ?_; rintro e w1 ⟨rfl, hb1⟩) | (go_at_call 14; refine (HU.out _).mono ?_; rintro e w2 ⟨rfl, rfl⟩) | (go_at_call 10; refine (HA.out _).mono ?_; rintro e w3 ⟨rfl, hb3⟩) | (go_at_call 15; refine (HR.out _).mono ?_; rintro e w4 ⟨rfl, hb4⟩))
    go_ret
    exact ⟨rfl, by repeat (first | assumption | (refine below2 (by assumption) ?_))⟩
  · obtain ⟨a, b, c, e1⟩ : ∃ a b c, Cd.unnum x.data.toList = (a, b, c) := ⟨_, _, _, rfl⟩
    rw [e1, unV_mk] at HU
    have b1 : (9223372036854775808 : Int) ≤ (n : Int) := by omega
    have b2 : decide ((9223372036854775808 : Int) ≤ (n : Int)) = true := decide_eq_true b1
    clear hx e1
    go_enter Try.func5, Try.ntmps5
    go_wp2_with (first | (go_at_call 13; refine (HX.out _).mono ?_; rintro e w1 ⟨rfl, hb1⟩) | (go_at_call 14; refine (HU.out _).mono ?_; rintro e w2 ⟨rfl, rfl⟩) | (go_at_call 10; refine (HA.out _).mono ?_; rintro e w3 ⟨rfl, hb3⟩) | (go_at_call 15; refine (HR.out _).mono ?_; rintro e w4 ⟨rfl, hb4⟩))
    go_ret
    exact ⟨rfl, by repeat (first | assumption | (refine below2 (by assumption) ?_))⟩
theorem u64_of_wf {z : Int} (h : (Lit.int .u64 z).wf = true) : ∃ n : Nat, z = (n : Int) ∧ n < 18446744073709551616 := by
  have h2 : 0 ≤ z ∧ z ≤ 18446744073709551615 := by simpa [Lit.wf, IntKind.min, IntKind.max, IntKind.signed, IntKind.bits] using h
  exact ⟨z.toNat, by omega, by omega⟩
theorem num_law_z (z : Int) (w : World) (h : (Lit.int .u64 z).wf = true) :
    Calls Try.prog 5 #[.int .u64 z] w fun e w' => e = .returned (.bool true) ∧ Below w.heap.size w w' := by
  obtain ⟨n, rfl, hn⟩ := u64_of_wf h
  exact num_law n w hn
end Go.Proofs.Ytnldocaeaplghaa
