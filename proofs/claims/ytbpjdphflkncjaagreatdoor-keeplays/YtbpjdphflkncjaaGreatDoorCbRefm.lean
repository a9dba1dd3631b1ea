/- The document's bytes of a number, walked. -/
import Derived.Test.YtbpjdphflkncjaaGreatDoorCbRefn
namespace Go.Proofs.YtbpjdphflkncjaaGreatDoor.Cb
open Go.RowKit
structure RnA (n k p f : Nat) : Prop where
  fr : f = Cd.F k
  sz : p = 128 ^ (k + 1) % 18446744073709551616
  le : f ≤ n
theorem RnA.next {n k p f q : Nat} (h : RnA n k p f) (hk : k < 9) (hn : ¬ n - f < p) (hq : p * 128 % 18446744073709551616 = q) : RnA n (k + 1) q (f + p) := by
  have hp : p = 128 ^ (k + 1) := by rw [h.sz]; exact Nat.mod_eq_of_lt (by have := (Cd.F_small ⟨k + 1, by omega⟩).2; simp at this; omega)
  have h1 := h.le
  refine ⟨?_, ?_, by omega⟩
  · rw [h.fr, hp]; rfl
  · rw [← hq, hp, ← Nat.pow_succ]
/-- What is made yet, backwards, and what is left: A ++ .. = all. -/
def left (k i c : Nat) : List UInt8 := if i = 0 then UInt8.ofNat (c % 128) :: Cd.dlm k (c / 128) else Cd.dlm (k + 1 - i) c
theorem left_next (k i c : Nat) (h : i < k + 1) : left k i c = UInt8.ofNat (if 0 < i then c % 128 + 128 else c % 128) :: left k (i + 1) (c / 128) := by
  unfold left
  by_cases h0 : i = 0
  · subst h0; simp
  · rw [if_neg h0, if_pos (show 0 < i by omega), if_neg (show ¬ i + 1 = 0 by omega), show k + 1 - i = (k + 1 - (i + 1)) + 1 by omega, Cd.dlm, Nat.add_comm]
theorem left_end (k c : Nat) : left k (k + 1) c = [] := by
  unfold left
  rw [if_neg (by omega), Nat.sub_self, Cd.dlm]
structure RnB (n k i c : Nat) (u : ByteArray) : Prop where
  tells : Cd.numR n = u.data.toList.reverse ++ left k i c
  len : u.size = i
theorem RnB.next {n k i c : Nat} {u : ByteArray} {x : UInt8} (h : RnB n k i c u) (hi : i < k + 1) (hx : UInt8.ofNat (if 0 < i then c % 128 + 128 else c % 128) = x) : RnB n k (i + 1) (c / 128) (bs [x] ++ u) := by
  constructor
  · rw [h.tells, left_next k i c hi, hx, cat_data, bs_list]; simp
  · rw [← str_len, cat_data, bs_list, List.length_append, str_len, h.len]; simp; omega
theorem RnB.fin {n k c : Nat} {u : ByteArray} (h : RnB n k (k + 1) c u) : bs (Cd.numL n) = u := by
  rw [Cd.numL, h.tells, left_end, List.append_nil, List.reverse_reverse, bs_data]
set_option maxHeartbeats 800000 in
set_option maxRecDepth 100000 in
theorem refnum_any (n : Nat) (w : World) (hn : n < 18446744073709551616) :
    Calls Tryz.prog 34 #[.int .u64 (n : Int)] w fun e w' => e = .returned (.string (bs (Cd.numL n))) ∧ Below w.heap.size w w' := by
  have n64 : (n : Int) < 18446744073709551616 := by omega
  go_enter Tryz.func34, Tryz.ntmps34
  go_wp2
  go_loop [3, 4, 5] (fun a b d => ∃ k p f : Nat, k ≤ 9 ∧ a = .int .i64 (k + 1) ∧ b = .int .u64 p ∧ d = .int .u64 f ∧ RnA n k p f) (fun a _ _ => 10 - (intOf a).toNat)
  case atStart => exact ⟨0, 128, 0, by omega, rfl, rfl, rfl, rfl, rfl, by omega⟩
  case round =>
    obtain ⟨k, p, f, hk, rfl, rfl, rfl, hr⟩ := hrel
    have hle := hr.le
    have hff := (Cd.F_small ⟨k, by omega⟩).1
    have hfr := hr.fr
    rw [show Cd.F (Fin.mk k (by omega : k < 10)).val = Cd.F k from rfl, ← hfr] at hff
    have l1 : (f : Int) ≤ (n : Int) := by omega
    by_cases hgo : k < 9 ∧ ¬ n - f < p
    · have hid : decide ((k : Int) + 1 < 10) = true := by simp; omega
      have hid1 : (k : Int) + 1 < 10 := by omega
      have hid2 : (p : Int) ≤ (n : Int) - (f : Int) := by omega
      obtain ⟨q, hq⟩ : ∃ q, p * 128 % 18446744073709551616 = q := ⟨_, rfl⟩
      have q1 : IntKind.u64.wrap ((p : Int) * 128) = (q : Int) := by first | (rw [IntKind.wrap_u64']; omega) | (rw [IntKind.wrap_u64]; omega)
      have HN := hideIt (hr.next hgo.1 hgo.2 hq)
      have s1 : (f : Int) + (p : Int) < 18446744073709551616 := by omega
      clear hr hq hfr
      go_wp2
      go_round
      case rel => exact ⟨k + 1, q, f + p, by omega, by go_num, by go_num, by go_num, HN.out⟩
      case measure => simp [intOf]; omega
    · obtain ⟨r, hrr⟩ : ∃ r, n = r + f := ⟨n - f, by omega⟩
      have hlt : r < 128 ^ (k + 1) := by
        by_cases h9 : k < 9
        · have hp : p = 128 ^ (k + 1) := by rw [hr.sz]; exact Nat.mod_eq_of_lt (by have := (Cd.F_small ⟨k + 1, by omega⟩).2; simp at this; omega)
          rw [← hp]
          omega
        · obtain rfl : k = 9 := by omega
          omega
      have H0 : Hid (RnB n k 0 r ⟨#[]⟩) := hideIt ⟨by rw [hrr, hfr, Cd.numR_F k r hlt]; rfl, rfl⟩
      have d1 : (n : Int) - (f : Int) = (r : Int) := by omega
      have r1 : (r : Int) ≤ (n : Int) := by omega
      have hcase : (decide ((k : Int) + 1 < 10) = true ∧ decide ((p : Int) ≤ (r : Int)) = false ∧ (k : Int) + 1 < 10 ∧ ¬ (p : Int) ≤ (r : Int)) ∨ decide ((k : Int) + 1 < 10) = false := by
        rw [decide_eq_false_iff_not, decide_eq_false_iff_not, decide_eq_true_iff]; omega
      have HR := hideIt hrr
      clear hr hfr hlt hff hgo hle hrr
      rcases hcase with ⟨c1, c2, c3, c4⟩ | c1
      all_goals
        go_wp2
        clear c1 d1 l1
        go_loopw [0, 6, 7] (fun a b t wr => ∃ (i c : Nat) (u : ByteArray), i ≤ k + 1 ∧ t = .int .i64 i ∧ a = .int .u64 c ∧ c ≤ n ∧ b = .string u ∧ RnB n k i c u ∧ Below w.heap.size w wr) (fun _ _ t _ => k + 1 - (intOf t).toNat)
        case atStart => exact ⟨0, r, _, by omega, rfl, rfl, by omega, rfl, H0.out, Below.refl _ _⟩
        case round =>
          obtain ⟨i, c, u, hi, rfl, rfl, hcn, rfl, hb, hw⟩ := hrel
          by_cases hik : i < k + 1
          · have hid : decide ((i : Int) < (k : Int) + 1) = true := by simp; omega
            have hid1 : (i : Int) < (k : Int) + 1 := by omega
            have hid2 : (i : Int) ≤ (k : Int) := by omega
            have c64 : (c : Int) < 18446744073709551616 := by omega
            obtain ⟨x, hx⟩ : ∃ x, UInt8.ofNat (if 0 < i then c % 128 + 128 else c % 128) = x := ⟨_, rfl⟩
            have HB := hideIt (hb.next hik hx)
            have us : u.size ≤ 10 := by rw [hb.len]; omega
            obtain ⟨d, hd⟩ : ∃ d, c % 128 = d := ⟨_, rfl⟩
            obtain ⟨q, hq⟩ : ∃ q, c / 128 = q := ⟨_, rfl⟩
            have e1 : (c : Int) % 128 = (d : Int) := by omega
            have e2 : (c : Int) / 128 = (q : Int) := by omega
            have d1 : (d : Int) < 128 := by omega
            rw [hd] at hx
            rw [hq] at HB
            obtain ⟨z, hz⟩ : ∃ z, bs [x] = z := ⟨_, rfl⟩
            have zs : z.size ≤ 1 := by rw [← hz, bs_size]; simp
            have s1 : ¬ 9223372036854775807 < z.size + u.size := by omega
            have hcv := run_one x wr
            rw [hz] at hcv HB
            have HW := hideIt hw
            have qn : q ≤ n := by omega
            by_cases h0 : i = 0
            · subst h0
              rw [if_neg (by omega)] at hx
              have hxn : (x.toNat : Int) = (d : Int) := by rw [← hx, UInt8.toNat_ofNat']; omega
              rw [hxn] at hcv
              clear hx hd hq hz hb hw hxn
              go_wp2
              go_roundw
              case rel => exact ⟨1, q, _, by omega, by go_num, rfl, qn, rfl, HB.out, HW.out.alloc (by have := HW.out.size; omega) _⟩
              case measure => simp [intOf]
            · have i0 : (0 : Int) < (i : Int) := by omega
              rw [if_pos (by omega)] at hx
              have i2 : 0 < i := by omega
              have hxn : (d : Int) + 128 = (x.toNat : Int) := by rw [← hx, UInt8.toNat_ofNat']; omega
              have hxw : IntKind.u8.wrap ((d : Int) + 128) = (x.toNat : Int) := by rw [hxn, IntKind.wrap_u8]; have := x.toNat_lt; omega
              have hxl : (x.toNat : Int) < 256 := by have := x.toNat_lt; omega
              clear hx hd hq hz hb hw h0
              go_wp2
              go_roundw
              case rel => exact ⟨i + 1, q, _, by omega, by go_num, rfl, qn, rfl, HB.out, HW.out.alloc (by have := HW.out.size; omega) _⟩
              case measure => simp [intOf]; omega
          · obtain rfl : i = k + 1 := by omega
            have HE := hideIt hb.fin
            have HW := hideIt hw
            have hid : decide (((k + 1 : Nat) : Int) < (k : Int) + 1) = false := decide_eq_false (by omega)
            clear hb hw
            go_wp2
            go_ret
            exact ⟨by rw [HE.out]; rfl, HW.out⟩
end Go.Proofs.YtbpjdphflkncjaaGreatDoor.Cb
