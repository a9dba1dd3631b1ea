/- The law on how many names a path may have, walked. -/
import Derived.Test.YtgbmfhbodfmpbaaDoorLsq
import Derived.Test.YtgbmfhbodfmpbaaDoorLbawk
namespace Go.Proofs.YtgbmfhbodfmpbaaDoor
open Go.RowKit
def deepL (k : Nat) : List UInt8 := 97 :: (List.replicate k ([47, 98] : List UInt8)).flatten
def deepS (k : Nat) : ByteArray := bs (deepL k)
theorem deep_len (k : Nat) : (deepL k).length = 2 * k + 1 := by simp [deepL, List.length_flatten, List.map_replicate, List.sum_replicate_nat]; omega
theorem deep_size (k : Nat) : (deepS k).size = 2 * k + 1 := by rw [deepS, bs_size, deep_len]
theorem deep_next (k : Nat) : deepS k ++ ⟨#[47, 98]⟩ = deepS (k + 1) := by
  rw [← bs_data (deepS k ++ _), cat_data, deepS, bs_list, deepS]
  congr 1
  unfold deepL
  rw [List.replicate_succ', List.flatten_append]
  simp
theorem segs_deep : ∀ (k : Nat) (acc : List UInt8), segs acc ((List.replicate k ([47, 98] : List UInt8)).flatten) = acc :: List.replicate k [98]
  | 0, acc => by simp [segs]
  | k + 1, acc => by
    rw [List.replicate_succ, List.flatten_cons, List.replicate_succ]
    show segs acc (47 :: 98 :: (List.replicate k ([47, 98] : List UInt8)).flatten) = _
    rw [segs, if_pos rfl, segs, if_neg (by decide), segs_deep k]
    rfl
theorem pieces_deep (k : Nat) : pieces (deepS k) = bs [97] :: List.replicate k (bs [98]) := by
  unfold pieces deepS
  rw [bs_list, deepL, segs, if_neg (by decide), segs_deep, List.map_cons, List.map_replicate]
  rfl
theorem deep_names (k : Nat) : (pieces (deepS k)).all Lb.nameB = true := by
  have e1 : Lb.nameB (bs [97]) = true := by decide +kernel
  have e2 : Lb.nameB (bs [98]) = true := by decide +kernel
  rw [pieces_deep, List.all_cons, e1, Bool.true_and, List.all_eq_true]
  intro x hx
  rw [List.eq_of_mem_replicate hx]
  exact e2
theorem deep_count (k : Nat) : (pieces (deepS k)).length = k + 1 := by rw [pieces_deep]; simp
theorem deep_err (k : Nat) : splE (deepS k) = if 63 < k then 3 else 0 := by
  unfold splE
  rw [deep_count, deep_names]
  by_cases h : 63 < k
  · rw [if_pos (by omega), if_pos h]
  · rw [if_neg (by omega), if_neg h]; rfl
theorem i64_and127 (n : Int) : bits .and .i64 n 127 = n % 128 := by
  have h3 : (BitVec.ofInt 64 127).toNat = 2 ^ 7 - 1 := by decide
  have key : (BitVec.ofInt 64 n &&& BitVec.ofInt 64 127).toNat = (n % ((2 ^ 64 : Nat) : Int)).toNat % 2 ^ 7 := by
    rw [BitVec.toNat_and, BitVec.toNat_ofInt, h3, Nat.and_two_pow_sub_one_eq_mod]
  show IntKind.i64.wrap ((BitVec.ofInt 64 n &&& BitVec.ofInt 64 127).toNat : Nat) = n % 128
  rw [key, IntKind.wrap_i64]
  omega
set_option maxHeartbeats 1600000 in
set_option maxRecDepth 100000 in
theorem deep_law (n : Int) (w : World) (hm : MaxAt w) :
    Calls Tryd.prog 4 #[.int .i64 n] w fun e w' => e = .returned (.bool true) ∧ Below w.heap.size w w' := by
  obtain ⟨k, hk⟩ : ∃ k : Nat, n % 128 = (k : Int) := ⟨(n % 128).toNat, by omega⟩
  have hb : bits .and .i64 n 127 = (k : Int) := by rw [i64_and127, hk]
  have hk2 : k ≤ 127 := by omega
  clear hk
  have HS := hideIt (split_any (deepS k) w hm (by rw [deep_size]; omega))
  have HA := hideIt awake_any
  have HU : Hid (∀ w e w', SplitTo w (deepS k) e w' → ∃ v, e = .returned (.tuple #[v, .int .i64 (if 63 < k then 3 else 0)]) ∧ Below w.heap.size w w' ∧ (¬ (if 63 < k then (3 : Int) else 0) = 0 → v = .slice none 0 0) ∧ ((if 63 < k then (3 : Int) else 0) = 0 → StrRow w.heap.size w' v (pieces (deepS k)))) := fun w e w' h => by
    rw [← deep_err k]
    exact h
  have kI : (k : Int) ≤ 127 := by omega
  by_cases h63 : 63 < k
  · have HU' : Hid (∀ w e w', SplitTo w (deepS k) e w' → e = .returned (.tuple #[.slice none 0 0, .int .i64 3]) ∧ Below w.heap.size w w') := hideIt (fun w e w' h => by
      obtain ⟨v, e1, hb, hn, _⟩ := HU.out w e w' h
      rw [if_pos h63] at e1 hn
      rw [hn (by omega)] at e1
      exact ⟨e1, hb⟩)
    have c1 : decide ((64 : Int) < (k : Int) + 1) = true := by simp; omega
    clear HU
    go_enter Tryd.func4, Tryd.ntmps4
    go_wp2
    go_loop [3, 5] (fun u v => ∃ i : Nat, u = .string (deepS i) ∧ v = .int .i64 i ∧ i ≤ k) (fun _ v => k - (intOf v).toNat)
    case atStart => exact ⟨0, rfl, rfl, by omega⟩
    case round =>
      obtain ⟨i, rfl, rfl, hi⟩ := hrel
      have hds := deep_size i
      have HN := hideIt (deep_next i)
      obtain ⟨d, hd⟩ : ∃ d, deepS i = d := ⟨_, rfl⟩
      by_cases hlt : i < k
      · have d1 : decide ((i : Int) < (k : Int)) = true := by simp; omega
        rw [hd] at hds HN ⊢
        have dz : d.size ≤ 300 := by omega
        have dI : (d.size : Int) ≤ 300 := by omega
        have iI : (i : Int) ≤ 127 := by omega
        clear hd hds
        go_wp2
        go_round
        case rel => exact ⟨i + 1, by rw [HN.out], by go_num, by omega⟩
        case measure => simp [intOf]; omega
      · obtain rfl : i = k := by omega
        have d1 : decide ((i : Int) < (i : Int)) = false := by simp
        rw [hd] at HS HU' ⊢
        clear hd HN hds
        go_wp2_with (first | (go_at_call 5; refine HS.out.mono ?_; rintro e w1 he1; obtain ⟨rfl, hb1⟩ := HU'.out _ _ _ he1; clear he1) | (go_at_call 8; refine (HA.out _).mono ?_; rintro e w3 ⟨rfl, hb3⟩))
        go_ret
        exact ⟨rfl, below2 hb1 hb3⟩
  · have HU' : Hid (∀ w e w', SplitTo w (deepS k) e w' → ∃ g cap, e = .returned (.tuple #[.slice (some ⟨g, 0, none⟩) (k + 1) cap, .int .i64 0]) ∧ Below w.heap.size w w') := hideIt (fun w e w' h => by
      obtain ⟨v, e1, hb, _, hr⟩ := HU.out w e w' h
      rw [if_neg h63] at e1 hr
      obtain ⟨g, cap, rfl, _⟩ := hr rfl
      rw [deep_count] at e1
      exact ⟨g, cap, e1, hb⟩)
    have c1 : decide ((64 : Int) < (k : Int) + 1) = false := by simp; omega
    have q1 : ((k : Int) + 1 == (k : Int) + 1) = true := by simp
    clear HU
    go_enter Tryd.func4, Tryd.ntmps4
    go_wp2
    go_loop [3, 5] (fun u v => ∃ i : Nat, u = .string (deepS i) ∧ v = .int .i64 i ∧ i ≤ k) (fun _ v => k - (intOf v).toNat)
    case atStart => exact ⟨0, rfl, rfl, by omega⟩
    case round =>
      obtain ⟨i, rfl, rfl, hi⟩ := hrel
      have hds := deep_size i
      have HN := hideIt (deep_next i)
      obtain ⟨d, hd⟩ : ∃ d, deepS i = d := ⟨_, rfl⟩
      by_cases hlt : i < k
      · have d1 : decide ((i : Int) < (k : Int)) = true := by simp; omega
        rw [hd] at hds HN ⊢
        have dz : d.size ≤ 300 := by omega
        have dI : (d.size : Int) ≤ 300 := by omega
        have iI : (i : Int) ≤ 127 := by omega
        clear hd hds
        go_wp2
        go_round
        case rel => exact ⟨i + 1, by rw [HN.out], by go_num, by omega⟩
        case measure => simp [intOf]; omega
      · obtain rfl : i = k := by omega
        have d1 : decide ((i : Int) < (i : Int)) = false := by simp
        rw [hd] at HS HU' ⊢
        clear hd HN hds
        go_wp2_with (first | (go_at_call 5; refine HS.out.mono ?_; rintro e w1 he1; obtain ⟨g, cap, rfl, hb1⟩ := HU'.out _ _ _ he1; clear he1) | (go_at_call 8; refine (HA.out _).mono ?_; rintro e w3 ⟨rfl, hb3⟩))
        go_ret
        exact ⟨rfl, below2 hb1 hb3⟩
end Go.Proofs.YtgbmfhbodfmpbaaDoor
