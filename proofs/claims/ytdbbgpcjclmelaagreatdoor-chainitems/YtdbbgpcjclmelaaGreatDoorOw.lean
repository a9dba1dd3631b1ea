/- Raw, ID and Open, walked. -/
import Derived.Test.YtdbbgpcjclmelaaGreatDoorOs
import Derived.Test.YtdbbgpcjclmelaaGreatDoorCbUndw
import Derived.Test.YtdbbgpcjclmelaaGreatDoorSaAll
namespace Go.Proofs.YtdbbgpcjclmelaaGreatDoor
namespace Ob
open Go.RowKit Go.Shelf
/-- What the calls of this seat need of the library's and the program's tables. -/
structure Ok (w : World) : Prop where
  max : MaxAt w
  tab : Cb.Tab w
  errs : Cb.Errs w
  kat : Sa.KAt w
theorem Ok.below {w w' : World} (h : Ok w) (hb : Below w.heap.size w w') : Ok w' := ⟨h.max.below hb, Cb.tab_below hb h.tab, Cb.errs_below hb h.errs, Sa.K_below hb (Sa.K_pos h.kat) h.kat⟩
theorem dec_c (u : Nat) (w : World) (h : u < 18446744073709551616) (hk : Ok w) :
    Calls Tryz.prog 132 #[.int .u64 (u : Int)] w fun e w' => e = .returned (.string (bs (Lib.decDigits u))) ∧ Below w.heap.size w w' := Cb.dec_any u w h hk.tab
theorem undec_c (L : List UInt8) (w : World) (h : L.length ≤ 1000000) (hk : Ok w) :
    Calls Tryz.prog 108 #[.string (bs L)] w fun e w' => e = .returned (Cb.udV (Cb.Dd.und L)) ∧ Below w.heap.size w w' := by
  have := Cb.undec_any (bs L) w (by rw [bs_size]; exact h) hk.tab hk.errs
  rw [bs_list] at this
  exact this
set_option maxHeartbeats 400000 in
theorem wordOf_any (k : Int) (w : World) : Calls Tryz.prog 173 #[.int .i64 k] w fun e w' => e = .returned (.string (bs (kw k))) ∧ w' = w := by
  rcases kind_cases k with rfl | rfl | rfl | rfl | h
  · go_enter Tryz.func173, Tryz.ntmps173
    go_wp2
    go_ret
    exact ⟨rfl, rfl⟩
  · go_enter Tryz.func173, Tryz.ntmps173
    go_wp2
    go_ret
    exact ⟨rfl, rfl⟩
  · go_enter Tryz.func173, Tryz.ntmps173
    go_wp2
    go_ret
    exact ⟨rfl, rfl⟩
  · go_enter Tryz.func173, Tryz.ntmps173
    go_wp2
    go_ret
    exact ⟨rfl, rfl⟩
  · have HK := hideIt (kw_none h)
    obtain ⟨h1, h2, h3, h4⟩ := h
    go_enter Tryz.func173, Tryz.ntmps173
    go_wp2
    go_ret
    exact ⟨by rw [HK.out]; rfl, rfl⟩
theorem kn_cases (L : List UInt8) : (L = blobW ∧ kn L = 1) ∨ (L = treeW ∧ kn L = 2) ∨ (L = commitW ∧ kn L = 3) ∨ (L = tagW ∧ kn L = 4) ∨ (L ≠ blobW ∧ L ≠ treeW ∧ L ≠ commitW ∧ L ≠ tagW ∧ kn L = 0) := by
  by_cases h1 : L = blobW
  · exact .inl ⟨h1, by rw [h1]; rfl⟩
  by_cases h2 : L = treeW
  · exact .inr (.inl ⟨h2, by rw [h2]; rfl⟩)
  by_cases h3 : L = commitW
  · exact .inr (.inr (.inl ⟨h3, by rw [h3]; rfl⟩))
  by_cases h4 : L = tagW
  · exact .inr (.inr (.inr (.inl ⟨h4, by rw [h4]; rfl⟩)))
  · exact .inr (.inr (.inr (.inr ⟨h1, h2, h3, h4, by rw [kn, if_neg h1, if_neg h2, if_neg h3, if_neg h4]⟩)))
set_option maxHeartbeats 400000 in
theorem kindOf_any (L : List UInt8) (w : World) : Calls Tryz.prog 107 #[.string (bs L)] w fun e w' => e = .returned (.int .i64 (kn L)) ∧ w' = w := by
  have n1 := lit_eq L [98, 108, 111, 98]
  have n2 := lit_eq L [116, 114, 101, 101]
  have n3 := lit_eq L [99, 111, 109, 109, 105, 116]
  have n4 := lit_eq L [116, 97, 103]
  obtain ⟨s, hs⟩ : ∃ s, bs L = s := ⟨_, rfl⟩
  rw [hs] at n1 n2 n3 n4 ⊢
  rcases kn_cases L with ⟨h, hk⟩ | ⟨h, hk⟩ | ⟨h, hk⟩ | ⟨h, hk⟩ | ⟨h1, h2, h3, h4, hk⟩
  · have HK := hideIt hk
    have m1 : _ = true := n1.trans (by rw [h]; rfl)
    have m2 : _ = false := n2.trans (by rw [h]; rfl)
    have m3 : _ = false := n3.trans (by rw [h]; rfl)
    have m4 : _ = false := n4.trans (by rw [h]; rfl)
    clear h hk hs n1 n2 n3 n4
    go_enter Tryz.func107, Tryz.ntmps107
    go_wp2
    go_ret
    exact ⟨by rw [HK.out] <;> rfl, rfl⟩
  · have HK := hideIt hk
    have m1 : _ = false := n1.trans (by rw [h]; rfl)
    have m2 : _ = true := n2.trans (by rw [h]; rfl)
    have m3 : _ = false := n3.trans (by rw [h]; rfl)
    have m4 : _ = false := n4.trans (by rw [h]; rfl)
    clear h hk hs n1 n2 n3 n4
    go_enter Tryz.func107, Tryz.ntmps107
    go_wp2
    go_ret
    exact ⟨by rw [HK.out] <;> rfl, rfl⟩
  · have HK := hideIt hk
    have m1 : _ = false := n1.trans (by rw [h]; rfl)
    have m2 : _ = false := n2.trans (by rw [h]; rfl)
    have m3 : _ = true := n3.trans (by rw [h]; rfl)
    have m4 : _ = false := n4.trans (by rw [h]; rfl)
    clear h hk hs n1 n2 n3 n4
    go_enter Tryz.func107, Tryz.ntmps107
    go_wp2
    go_ret
    exact ⟨by rw [HK.out] <;> rfl, rfl⟩
  · have HK := hideIt hk
    have m1 : _ = false := n1.trans (by rw [h]; rfl)
    have m2 : _ = false := n2.trans (by rw [h]; rfl)
    have m3 : _ = false := n3.trans (by rw [h]; rfl)
    have m4 : _ = true := n4.trans (by rw [h]; rfl)
    clear h hk hs n1 n2 n3 n4
    go_enter Tryz.func107, Tryz.ntmps107
    go_wp2
    go_ret
    exact ⟨by rw [HK.out] <;> rfl, rfl⟩
  · have HK := hideIt hk
    have m1 : _ = false := n1.trans (decide_eq_false h1)
    have m2 : _ = false := n2.trans (decide_eq_false h2)
    have m3 : _ = false := n3.trans (decide_eq_false h3)
    have m4 : _ = false := n4.trans (decide_eq_false h4)
    clear hk hs n1 n2 n3 n4
    go_enter Tryz.func107, Tryz.ntmps107
    go_wp2
    go_ret
    exact ⟨by rw [HK.out] <;> rfl, rfl⟩
theorem bs_ne (L : List UInt8) (h : L ≠ []) : ((bs L).toList == []) = false := by rw [lit_eq]; exact decide_eq_false h
theorem kw_ne {k : Int} (h : 1 ≤ k ∧ k ≤ 4) : kw k ≠ [] := by
  rcases kind_cases k with rfl | rfl | rfl | rfl | h'
  · decide
  · decide
  · decide
  · decide
  · omega
/-- The error of a length that is told. -/
def lenE (told is : Nat) : Int := if 262144 < told then 3 else if is < told then 4 else if told < is then 5 else 0
set_option maxHeartbeats 400000 in
theorem checkLength_any (n m : Nat) (w : World) :
    Calls Tryz.prog 109 #[.int .u64 (n : Int), .int .u64 (m : Int)] w fun e w' => e = .returned (.int .i64 (lenE n m)) ∧ w' = w := by
  have HL : Hid (lenE n m = if 262144 < n then 3 else if m < n then 4 else if n < m then 5 else 0) := rfl
  by_cases h1 : 262144 < n
  · rw [if_pos h1] at HL
    have i1 : (262144 : Int) < (n : Int) := by omega
    go_enter Tryz.func109, Tryz.ntmps109
    go_wp2
    go_ret
    exact ⟨by rw [HL.out] <;> rfl, rfl⟩
  have i1 : ¬ (262144 : Int) < (n : Int) := by omega
  rw [if_neg h1] at HL
  by_cases h2 : m < n
  · rw [if_pos h2] at HL
    have i2 : (m : Int) < (n : Int) := by omega
    go_enter Tryz.func109, Tryz.ntmps109
    go_wp2
    go_ret
    exact ⟨by rw [HL.out] <;> rfl, rfl⟩
  have i2 : ¬ (m : Int) < (n : Int) := by omega
  rw [if_neg h2] at HL
  by_cases h3 : n < m
  · rw [if_pos h3] at HL
    have i3 : (n : Int) < (m : Int) := by omega
    go_enter Tryz.func109, Tryz.ntmps109
    go_wp2
    go_ret
    exact ⟨by rw [HL.out] <;> rfl, rfl⟩
  have i3 : ¬ (n : Int) < (m : Int) := by omega
  rw [if_neg h3] at HL
  go_enter Tryz.func109, Tryz.ntmps109
  go_wp2
  go_ret
  exact ⟨by rw [HL.out] <;> rfl, rfl⟩
end Ob
end Go.Proofs.YtdbbgpcjclmelaaGreatDoor
