/- The document's copy: where a nought first stands, walked. -/
import Derived.Test.YtmjffngpaoaflaaGreatDoorTr
namespace Go.Proofs.YtmjffngpaoaflaaGreatDoor
open Go.RowKit Go.Shelf
theorem bytes_ext {a b : ByteArray} (h : a.data.toList = b.data.toList) : a = b := ByteArray.ext (Array.toList_inj.1 h)
theorem infoR : (Tryz.prog.info? 73).map (fun i => (i.zero, i.size, i.bytes)) = some (some (.agg #[.string ⟨#[]⟩, .int .i64 0, .string ⟨#[]⟩]), 3, 40) := by kernel_rfl
set_option maxHeartbeats 800000 in
set_option maxRecDepth 100000 in
theorem refmode_any (m : Int) (h : 1 ≤ m ∧ m ≤ 3) (w : World) : Calls Tryz.prog 63 #[.int .i64 m] w fun e w' => e = .returned (.string (bs (word m))) ∧ Below w.heap.size w w' := by
  rcases (by omega : m = 1 ∨ m = 2 ∨ m = 3) with rfl | rfl | rfl
  all_goals go_enter Tryz.func63, Tryz.ntmps63
  all_goals go_wp2
  all_goals go_ret
  all_goals exact ⟨rfl, (Below.refl _ _).alloc (Nat.le_refl _) _⟩
def zp (L : List UInt8) : Int := match cut0 L with
  | none => -1
  | some p => (p.1.length : Nat)
theorem zp_at (L : List UInt8) (i : Nat) (h : ∀ j, j < i → L[j]? ≠ some 0) (h0 : L[i]? = some 0) : zp L = (i : Nat) := by
  have e : L = L.take i ++ 0 :: L.drop (i + 1) := by
    obtain ⟨hl, hv⟩ := List.getElem?_eq_some_iff.1 h0
    conv => lhs; rw [← List.take_append_drop i L, List.drop_eq_getElem_cons hl, hv]
  have hn : (0 : UInt8) ∉ L.take i := by
    intro hm
    obtain ⟨j, hj⟩ := List.mem_iff_getElem?.1 hm
    rw [List.getElem?_take] at hj
    split at hj
    · exact h j (by assumption) hj
    · cases hj
  unfold zp
  rw [e, cut0_mk _ _ hn]
  have hl := (List.getElem?_eq_some_iff.1 h0).1
  simp
  omega
theorem zp_none (L : List UInt8) (h : ∀ j, j < L.length → L[j]? ≠ some 0) : zp L = -1 := by
  have hn : (0 : UInt8) ∉ L := by
    intro hm
    obtain ⟨j, hj⟩ := List.mem_iff_getElem?.1 hm
    exact h j (List.getElem?_eq_some_iff.1 hj).1 hj
  unfold zp
  rw [(cut0_none L).2 hn]
set_option maxHeartbeats 800000 in
set_option maxRecDepth 100000 in
theorem index_any (L : List UInt8) (hL : L.length ≤ 1000000) (w : World) : Calls Tryz.prog 62 #[.string (bs L), .int .u8 0] w fun e w' => e = .returned (.int .i64 (zp L)) ∧ w' = w := by
  obtain ⟨s, hs⟩ : ∃ s, bs L = s := ⟨_, rfl⟩
  have hd : s.data.toList = L := by rw [← hs, bs_list]
  have hsz : s.size = L.length := by rw [← hs, bs_size]
  obtain ⟨n, hnn⟩ : ∃ n, s.size = n := ⟨_, rfl⟩
  have HD := hideIt hd
  have HZ := hideIt (zp_at L)
  have HZN := hideIt (zp_none L)
  have HLN : Hid (L.length = n) := hideIt (by omega)
  have nI : (n : Int) ≤ 1000000 := by omega
  have sI : (s.size : Int) = (n : Int) := by omega
  have HSN := hideIt hnn
  rw [hs]
  clear hs hd hsz hnn
  go_enter Tryz.func62, Tryz.ntmps62
  go_wp2
  go_loopw [5] (fun t wr => ∃ i : Nat, i ≤ n ∧ t = .int .i64 i ∧ (∀ j, j < i → L[j]? ≠ some 0) ∧ wr = w) (fun t _ => n - (intOf t).toNat)
  case atStart => exact ⟨0, by omega, rfl, fun j hj => by omega, rfl⟩
  case round =>
    obtain ⟨i, hi, rfl, hall, hwr⟩ := hrel
    obtain rfl := hwr.symm
    have HAL := hideIt hall
    clear hall hwr
    by_cases hlt : i < n
    · have i1 : (i : Int) < (n : Int) := by omega
      have i2 : decide ((i : Int) < (n : Int)) = true := decide_eq_true i1
      have i3 : i < s.size := by have := HSN.out; omega
      have i4 : (i : Int) < (s.size : Int) := by omega
      have i5 : (0 : Int) ≤ (i : Int) := by omega
      obtain ⟨c, hc⟩ : ∃ c, s[i] = c := ⟨_, rfl⟩
      have HC : Hid (L[i]? = some c) := hideIt (by rw [← HD.out, at_list s i i3, hc])
      by_cases h0 : c = 0
      · subst h0
        have m1 : ((0 : UInt8).toNat : Int) = 0 := rfl
        go_wp2
        go_ret
        exact ⟨by rw [HZ.out i HAL.out HC.out]; rfl, by first | rfl | trivial⟩
      · have n0 : ¬ ((c.toNat : Int) = 0) := by intro h; apply h0; apply UInt8.toNat_inj.1; simpa using (by omega : c.toNat = 0)
        have n1 : ((c.toNat : Int) == 0) = false := by simpa using n0
        go_wp2
        go_roundw
        case rel =>
          refine ⟨i + 1, by omega, by go_num, fun j hj => ?_, by first | rfl | trivial⟩
          rcases (by omega : j < i ∨ j = i) with h | h
          · exact HAL.out j h
          · subst h
            rw [HC.out]
            simpa using h0
        case measure => simp [intOf]; omega
    · obtain rfl : i = n := by omega
      have i2 : decide ((i : Int) < (i : Int)) = false := decide_eq_false (by omega)
      go_wp2
      go_ret
      exact ⟨by rw [HZN.out (fun j hj => HAL.out j (by have := HLN.out; omega))]; rfl, by first | rfl | trivial⟩
/-- What the document's copy has found of a mode among the first ones. -/
def stF (h : List UInt8) : Nat → Int × List UInt8
  | 0 => (0, [])
  | m + 1 => if (word (m + 1 : Nat) ++ [32]).isPrefixOf h then (((m + 1 : Nat) : Int), h.drop ((word (m + 1 : Nat)).length + 1)) else stF h m
theorem stF_heads (h : List UInt8) : stF h 3 = match heads h with
    | none => (0, [])
    | some p => p := by
  have e1 : word ((1 : Nat) : Int) = [102, 105, 108, 101] := rfl
  have e2 : word ((2 : Nat) : Int) = [114, 117, 110] := rfl
  have e3 : word ((3 : Nat) : Int) = [116, 114, 101, 101] := rfl
  simp only [stF, e1, e2, e3, heads, List.cons_append, List.nil_append, Nat.zero_add, Nat.reduceAdd, List.length_cons, List.length_nil]
  by_cases h1 : [102, 105, 108, 101, 32].isPrefixOf h = true
  · have := pref_some _ _ h1
    rw [this]
    simp [List.isPrefixOf]
  · by_cases h2 : [114, 117, 110, 32].isPrefixOf h = true
    · have := pref_some _ _ h2
      rw [this]
      simp [List.isPrefixOf]
    · by_cases h3 : [116, 114, 101, 101, 32].isPrefixOf h = true
      · simp [h1, h2, h3]
      · simp [h1, h2, h3]
end Go.Proofs.YtmjffngpaoaflaaGreatDoor
