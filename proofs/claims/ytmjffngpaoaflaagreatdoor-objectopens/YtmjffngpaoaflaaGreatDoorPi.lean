/- The document's index, walked: where a byte first stands. -/
import Derived.Test.YtmjffngpaoaflaaGreatDoorOl
namespace Go.Proofs.YtmjffngpaoaflaaGreatDoor
namespace Ob
open Go.RowKit Go.Shelf
/-- Where a byte first stands; -1: nowhere. -/
def ixc (c : UInt8) (L : List UInt8) : Int := match cutc c L with
  | none => -1
  | some p => (p.1.length : Nat)
theorem ixc_at (c : UInt8) (L : List UInt8) (i : Nat) (h : ∀ j, j < i → L[j]? ≠ some c) (h0 : L[i]? = some c) : ixc c L = (i : Nat) := by
  have e : L = L.take i ++ c :: L.drop (i + 1) := by
    obtain ⟨hl, hv⟩ := List.getElem?_eq_some_iff.1 h0
    conv => lhs; rw [← List.take_append_drop i L, List.drop_eq_getElem_cons hl, hv]
  have hn : c ∉ L.take i := by
    intro hm
    obtain ⟨j, hj⟩ := List.mem_iff_getElem?.1 hm
    rw [List.getElem?_take] at hj
    split at hj
    · exact h j (by assumption) hj
    · cases hj
  unfold ixc
  rw [e, cutc_mk c _ _ hn]
  have hl := (List.getElem?_eq_some_iff.1 h0).1
  simp
  omega
theorem ixc_none (c : UInt8) (L : List UInt8) (h : ∀ j, j < L.length → L[j]? ≠ some c) : ixc c L = -1 := by
  have hn : c ∉ L := by
    intro hm
    obtain ⟨j, hj⟩ := List.mem_iff_getElem?.1 hm
    exact h j (List.getElem?_eq_some_iff.1 hj).1 hj
  unfold ixc
  rw [(cutc_none c L).2 hn]
theorem at_bytes (s : ByteArray) (i : Nat) (h : i < s.size) : s.data.toList[i]? = some s[i] := by
  have h' : i < s.data.size := h
  rw [Array.getElem?_toList, Array.getElem?_eq_getElem h']
  rfl
set_option maxHeartbeats 800000 in
set_option maxRecDepth 100000 in
theorem refindex_any (c0 : UInt8) (L : List UInt8) (hL : L.length ≤ 1000000) (w : World) : Calls Tryz.prog 26 #[.string (bs L), .int .u8 (c0.toNat : Int)] w fun e w' => e = .returned (.int .i64 (ixc c0 L)) ∧ w' = w := by
  obtain ⟨s, hs⟩ : ∃ s, bs L = s := ⟨_, rfl⟩
  have hd : s.data.toList = L := by rw [← hs, bs_list]
  have hsz : s.size = L.length := by rw [← hs, bs_size]
  obtain ⟨n, hnn⟩ : ∃ n, s.size = n := ⟨_, rfl⟩
  have HD := hideIt hd
  have HZ := hideIt (ixc_at c0 L)
  have HZN := hideIt (ixc_none c0 L)
  have HLN : Hid (L.length = n) := hideIt (by omega)
  have nI : (n : Int) ≤ 1000000 := by omega
  have sI : (s.size : Int) = (n : Int) := by omega
  have HSN := hideIt hnn
  rw [hs]
  clear hs hd hsz hnn
  go_enter Tryz.func26, Tryz.ntmps26
  go_wp2
  go_loopw [5] (fun t wr => ∃ i : Nat, i ≤ n ∧ t = .int .i64 i ∧ (∀ j, j < i → L[j]? ≠ some c0) ∧ wr = w) (fun t _ => n - (intOf t).toNat)
  case atStart => exact ⟨0, by omega, rfl, fun j hj => by omega, rfl⟩
  case round =>
    obtain ⟨i, hi, rfl, hall, hwr⟩ := hrel
    obtain rfl := hwr.symm
    have HAL := hideIt hall
    clear hall hwr
    by_cases hlt : i < n
    · have i1 : (i : Int) < (n : Int) := by omega
      have i2 : decide ((i : Int) < (n : Int)) = true := decide_eq_true i1
      have i3 : i < s.size := by have := HSN.out; omega
      have i4 : (i : Int) < (s.size : Int) := by omega
      have i5 : (0 : Int) ≤ (i : Int) := by omega
      obtain ⟨c, hc⟩ : ∃ c, s[i] = c := ⟨_, rfl⟩
      have HC : Hid (L[i]? = some c) := hideIt (by rw [← HD.out, at_bytes s i i3, hc])
      by_cases h0 : c = c0
      · subst h0
        have m1 : ((c.toNat : Int) == (c.toNat : Int)) = true := by simp
        go_wp2
        go_ret
        exact ⟨by rw [HZ.out i HAL.out HC.out]; rfl, by first | rfl | trivial⟩
      · have n0 : ¬ ((c.toNat : Int) = (c0.toNat : Int)) := by intro h; apply h0; apply UInt8.toNat_inj.1; omega
        have n1 : ((c.toNat : Int) == (c0.toNat : Int)) = false := by simpa using n0
        go_wp2
        go_roundw
        case rel =>
          refine ⟨i + 1, by omega, by go_num, fun j hj => ?_, by first | rfl | trivial⟩
          rcases (by omega : j < i ∨ j = i) with h | h
          · exact HAL.out j h
          · subst h
            rw [HC.out]
            simpa using h0
        case measure => simp [intOf]; omega
    · obtain rfl : i = n := by omega
      have i2 : decide ((i : Int) < (i : Int)) = false := decide_eq_false (by omega)
      go_wp2
      go_ret
      exact ⟨by rw [HZN.out (fun j hj => HAL.out j (by have := HLN.out; omega))]; rfl, by first | rfl | trivial⟩
end Ob
end Go.Proofs.YtmjffngpaoaflaaGreatDoor
