/- The document's numbers, walked: a number's bytes, and the number at the beginning of bytes. -/
import Derived.Test.YtbpjdphflkncjaaGreatDoorCbUnnumw
namespace Go.Proofs.YtbpjdphflkncjaaGreatDoor.Cb
open Go.RowKit
namespace Cd
def F : Nat → Nat
  | 0 => 0
  | k + 1 => F k + 128 ^ (k + 1)
theorem F_succ : ∀ k, F (k + 1) = 128 * (1 + F k)
  | 0 => rfl
  | k + 1 => by
    have h := F_succ k
    have e : F (k + 1) = F k + 128 ^ (k + 1) := rfl
    show F (k + 1) + 128 ^ (k + 1 + 1) = 128 * (1 + F (k + 1))
    rw [Nat.pow_succ 128 (k + 1)]
    omega
theorem F_small : ∀ k : Fin 10, F k.val ≤ 9295997013522923648 ∧ 128 ^ k.val ≤ 9223372036854775808 := by decide
theorem F_mod (k : Nat) : F k % 128 = 0 := by
  cases k with
  | zero => rfl
  | succ k => rw [F_succ]; omega
def dlm : Nat → Nat → List UInt8
  | 0, _ => []
  | k + 1, r => UInt8.ofNat (128 + r % 128) :: dlm k (r / 128)
theorem more_F : ∀ k r, r < 128 ^ (k + 1) → more (r + F k) = dlm k (r / 128)
  | 0, r, h => by rw [F, more_small (by omega), dlm]
  | k + 1, r, h => by
    have h1 := F_succ k
    have h2 := F_mod k
    rw [Nat.pow_succ] at h
    have ih := more_F k (r / 128) (by omega)
    rw [more_big (by omega), show (r + F (k + 1)) / 128 - 1 = r / 128 + F k by omega, ih, dlm]
    congr 3
    omega
theorem numR_F (k r : Nat) (h : r < 128 ^ (k + 1)) : numR (r + F k) = UInt8.ofNat (r % 128) :: dlm k (r / 128) := by
  have h2 := F_mod k
  rw [numR, more_F k r h, show (r + F k) % 128 = r % 128 by omega]
end Cd
structure RunL (s : ByteArray) (i r f p c : Nat) : Prop where
  fr : f = Cd.F i
  sz : p = 128 ^ (i + 1) % 18446744073709551616
  eq : r * 128 + f = c * 128
  bd : 127 * c + 128 ≤ 128 * 128 ^ i
  tells : Cd.unnum s.data.toList = Cd.unL (9 - i) i c (s.data.toList.drop i)
theorem RunL.next {s : ByteArray} {i r f p c q : Nat} (h : RunL s i r f p c) (his : i < s.size) (h9 : i < 9) (hb : ¬ s[i].toNat < 128) (hq : p * 128 % 18446744073709551616 = q) : RunL s (i + 1) (r * 128 + s[i].toNat % 128) (f + p) q (c * 128 + s[i].toNat % 128 + 1) := by
  have hp : p = 128 ^ (i + 1) := by rw [h.sz]; exact Nat.mod_eq_of_lt (by have := (Cd.F_small ⟨i + 1, by omega⟩).2; simp at this; omega)
  have h1 := Cd.F_succ i
  have h2 := h.eq
  have h3 := h.fr
  have h4 : f + p = Cd.F (i + 1) := by rw [h3, hp]; rfl
  refine ⟨h4, by rw [← hq, hp, ← Nat.pow_succ], by omega, pow_next i c _ (by omega) h.bd, un_more his h9 h.tells hb⟩
set_option maxHeartbeats 800000 in
set_option maxRecDepth 100000 in
theorem refunnum_any (s : ByteArray) (w : World) :
    Calls Tryz.prog 56 #[.string s] w fun e w' => e = .returned (unV (Cd.unnum s.data.toList)) ∧ w' = w := by
  go_enter Tryz.func56, Tryz.ntmps56
  go_wp2
  go_loop [5, 6, 7, 8] (fun a b d t => ∃ i r f p c : Nat, i ≤ 9 ∧ t = .int .i64 i ∧ a = .int .u64 r ∧ b = .int .u64 f ∧ d = .int .u64 p ∧ RunL s i r f p c) (fun _ _ _ t => 9 - (intOf t).toNat)
  case atStart => exact ⟨0, 0, 0, 128, 0, by omega, rfl, rfl, rfl, rfl, rfl, rfl, rfl, by simp, rfl⟩
  case round =>
    obtain ⟨i, r, f, p, c, hi, rfl, rfl, rfl, rfl, hr⟩ := hrel
    by_cases hlt : i < 9
    · have hid : decide ((i : Int) < 9) = true := by simp; omega
      by_cases his : i < s.size
      · have hid2 : ¬ (s.size : Int) ≤ (i : Int) := by omega
        have hcb := pow_bound i c (by omega) hr.bd
        have hff := (Cd.F_small ⟨i + 1, by omega⟩).1
        have hpp := (Cd.F_small ⟨i + 1, by omega⟩).2
        have heq := hr.eq
        have hfr := hr.fr
        have hsz := hr.sz
        simp only [Cd.F] at hff hpp
        rw [Nat.mod_eq_of_lt (by omega)] at hsz
        rw [← hfr, ← hsz] at hff
        rw [← hsz] at hpp
        have b1 : (0 : Int) ≤ (i : Int) := by omega
        have b2 : (i : Int) < (s.size : Int) := by omega
        have hbl := s[i].toNat_lt
        obtain ⟨d, hd⟩ : ∃ d, s[i].toNat % 128 = d := ⟨_, rfl⟩
        have hd1 : d < 128 := by omega
        have e1 : ((s[i].toNat : Nat) : Int) % 128 = (d : Int) := by omega
        have r1 : (r : Int) < 100000000000000000 := by omega
        have f1 : (f : Int) + (p : Int) ≤ 9295997013522923648 := by omega
        have f2 : (f : Int) + ((r : Int) * 128 + (d : Int)) < 18446744073709551616 := by omega
        obtain ⟨q, hq⟩ : ∃ q, p * 128 % 18446744073709551616 = q := ⟨_, rfl⟩
        have q1 : IntKind.u64.wrap ((p : Int) * 128) = (q : Int) := by first | (rw [IntKind.wrap_u64']; omega) | (rw [IntKind.wrap_u64]; omega)
        by_cases hb : s[i].toNat < 128
        · have hb1 : ((s[i].toNat : Nat) : Int) < 128 := by omega
          have HU := hideIt (un_done his hlt hr.tells hb)
          have HV : Hid (c * 128 + s[i].toNat % 128 = f + (r * 128 + d)) := hideIt (by omega)
          rw [HV.out] at HU
          clear hr heq hfr hsz hd hq HV hff hpp hcb
          go_wp2
          go_ret3
          exact ⟨by rw [HU.out]; simp only [unV]; push_cast; rfl, rfl⟩
        · have hb1 : ¬ ((s[i].toNat : Nat) : Int) < 128 := by omega
          have HN := hideIt (hr.next his hlt hb hq)
          rw [hd] at HN
          clear hr heq hfr hsz hd hq hff hpp hcb
          go_wp2
          go_round
          case rel => exact ⟨i + 1, r * 128 + d, f + p, q, _, by omega, by go_num, by go_num, by go_num, by go_num, HN.out⟩
          case measure => simp [intOf]; omega
      · have hid2 : (s.size : Int) ≤ (i : Int) := by omega
        have HU : Hid (Cd.unnum s.data.toList = (0, 0, 4)) := by
          refine hideIt ?_
          rw [hr.tells, List.drop_of_length_le (by rw [str_len]; omega), show 9 - i = (8 - i) + 1 by omega, Cd.unL]
        clear hr
        go_wp2
        go_ret3
        exact ⟨by rw [HU.out]; rfl, rfl⟩
    · obtain rfl : i = 9 := by omega
      have HU := hideIt (un_bad hr.tells)
      clear hr
      go_wp2
      go_ret3
      exact ⟨by rw [HU.out]; rfl, rfl⟩
end Go.Proofs.YtbpjdphflkncjaaGreatDoor.Cb
