/- A nil one, no room, a clone that goes its own way: the statement's own text, walked. -/
import Derived.Test.YtefefgiooknpkaaGreatDoorCln
import Derived.Test.YtefefgiooknpkaaGreatDoorCal
namespace Go.Proofs.YtefefgiooknpkaaGreatDoor
open Go.RowKit Go.Shelf Go.Maps
def s1 : ByteArray := ⟨#[49]⟩
def s2 : ByteArray := ⟨#[50]⟩
def U1 (n0 fb : Nat) (w : World) : Prop := ∃ b1 b2 b3 done xb, n0 ≤ fb ∧ St n0 w fb b1 b2 b3 done 1 1 10 1 1 0 1 1 (one sa (ptr xb)) (.map []) (oneI 0 (ptr xb)) (acta xb) ∧ FileAt w xb (0 : Nat) s1 ⟨#[]⟩ 1
def U2 (n0 fb cb : Nat) (w : World) : Prop := ∃ b1 b2 b3 done xb c1 c2 c3 done' x2 m0, n0 ≤ m0 ∧ fb < m0 ∧ b1 < m0 ∧ xb < m0 ∧ m0 ≤ cb ∧ m0 ≤ c3 ∧ m0 ≤ x2 ∧ cb ≠ x2 ∧ FsAt w fb (.map (some b1)) (.map (some b2)) done (.map (some b3)) (1 : Nat) (1 : Nat) (10 : Nat) (1 : Nat) false ∧ NMap w b1 1 (one sa (ptr xb)) ∧ FileAt w xb (0 : Nat) s1 ⟨#[]⟩ 1 ∧
  St m0 w cb c1 c2 c3 done' 1 1 10 1 2 0 2 1 (one sa (ptr x2)) (.map []) (oneI 0 (ptr x2)) (acta x2) ∧ FileAt w x2 (0 : Nat) s1 ⟨#[]⟩ 1
def U3 (fb : Nat) (w : World) : Prop := ∃ b1 b2 b3 done xb, FsAt w fb (.map (some b1)) (.map (some b2)) done (.map (some b3)) (1 : Nat) (1 : Nat) (10 : Nat) (1 : Nat) false ∧ NMap w b1 1 (one sa (ptr xb)) ∧ FileAt w xb (0 : Nat) s1 ⟨#[]⟩ 1
section
variable {n0 fb cb : Nat} {w : World}
theorem u1 (h : FsAt w fb (.map none) (.map none) (.slice none 0 0) (.map none) 0 0 (10 : Nat) 0 false) (hm : MaxAt w) (hn : n0 ≤ fb) :
    Calls Tryz.prog 12 #[ptr fb, .string sa, .string s1] w fun e w' => e = .returned (.int .i64 0) ∧ U1 n0 fb w' ∧ Below n0 w w' := by
  have hf := block_lt h
  refine (write_fresh (B0 := n0) h hm (by omega) sa s1 (by decide) (by decide) path_a (by decide) dir_a (by decide) (by decide)).mono ?_
  rintro e w' ⟨he, b1, b2, b3, done', xb, q1, q2, q3, q4, h1, h2, h3⟩
  exact ⟨he, ⟨b1, b2, b3, done', xb, hn, h1, h2⟩, h3.base n0 (by omega) (by simp; omega)⟩
theorem u2 (h : U1 n0 fb w) : Calls Tryz.prog 24 #[ptr fb] w fun e w' => ∃ cb, e = .returned (ptr cb) ∧ U2 n0 fb cb w' ∧ Below n0 w w' := by
  obtain ⟨b1, b2, b3, done, xb, q, hS, hF⟩ := h
  refine (clone_fs hS hF).mono ?_
  rintro e w' ⟨cb, c1, c2, c3, done', x2, he, l1, l2, l3, l4, hS', hF', hk⟩
  exact ⟨cb, he, ⟨b1, b2, b3, done, xb, c1, c2, c3, done', x2, w.heap.size, hS.ba, block_lt hS.fs, hS.m1.lt, block_lt hF, l1, l2, l3, l4, hk.fs hS.fs (by simp), hk.map hS.m1 (by simp), hk.fs hF (by simp), hS', hF'⟩, hk.base n0 hS.ba (by simp)⟩
theorem u3 (h : U2 n0 fb cb w) (hm : MaxAt w) : Calls Tryz.prog 12 #[ptr cb, .string sa, .string s2] w fun e w' => e = .returned (.int .i64 0) ∧ U3 fb w' ∧ Below n0 w w' := by
  obtain ⟨b1, b2, b3, done, xb, c1, c2, c3, done', x2, m0, l0, l1, l2, l3, l4, l5, l6, l7, hH, hM, hF, hS, hF2⟩ := h
  refine (write_over hS hm sa s2 (by decide) (by decide) path_a (by decide) dir_a (by decide) (by decide) (xb := x2) (num := 0) rfl rfl hF2 l7 (by decide) (by decide) (by decide) (by decide)).mono ?_
  rintro e w' ⟨he, h1, h2⟩
  exact ⟨he, ⟨b1, b2, b3, done, xb, h2.fs hH (by simp; omega), h2.map hM (by simp; omega), h2.fs hF (by simp; omega)⟩, h2.base n0 (Nat.le_trans l0 hS.ba) (by simp; omega)⟩
theorem u4 (h : U3 fb w) (hm : MaxAt w) (hn : n0 ≤ w.heap.size) : Calls Tryz.prog 19 #[ptr fb, .string sa] w fun e w' => e = .returned (.tuple #[.string s1, .int .i64 0]) ∧ Below n0 w w' := by
  obtain ⟨b1, b2, b3, done, xb, h1, h2, h3⟩ := h
  refine (read_there h1 h2 hm sa (by decide) path_a (xb := xb) rfl rfl h3).mono ?_
  rintro e w' ⟨he, r2⟩
  exact ⟨he, r2.base n0 hn (by simp)⟩
end
set_option maxHeartbeats 1600000 in
set_option maxRecDepth 100000 in
theorem none_any (k : Int) (p t s : ByteArray) (n at' keep torn : Int) (hs : s.size ≤ 9223372036854775807) (w : World) (hm : MaxAt w) :
    Calls Tryz.prog 6 #[.agg #[.int .i64 k, .string p, .string t, .string s, .int .i64 n, .int .i64 at', .int .u64 keep, .int .i64 torn]] w fun e w' => e = .returned (.bool true) ∧ Below w.heap.size w w' := by
  obtain ⟨n0, hn0⟩ : ∃ n0, w.heap.size = n0 := ⟨_, rfl⟩
  have hpos : 0 < n0 := by have := hm.pos; omega
  obtain ⟨W, hW⟩ : ∃ W, w.alloc (.cells #[.int .i64 k, .string p, .string t, .string s, .int .i64 n, .int .i64 at', .int .u64 keep, .int .i64 torn] 40) = W := ⟨_, rfl⟩
  have hkW : Kept [] w W := by rw [← hW]; exact Kept.alloc _ _
  have hrow : W.heap[w.heap.size]? = some (.cells #[.int .i64 k, .string p, .string t, .string s, .int .i64 n, .int .i64 at', .int .u64 keep, .int .i64 torn] 40 (0, 0)) := by rw [← hW]; exact alloc_at rfl
  have hlt := block_lt hrow
  rw [hn0] at hrow hlt
  have c0 : W.cell? ⟨n0, 0, none⟩ = some (.int .i64 k) := cellAt hrow rfl
  have c4 : W.cell? ⟨n0, 4, none⟩ = some (.int .i64 n) := cellAt hrow rfl
  have c5 : W.cell? ⟨n0, 5, none⟩ = some (.int .i64 at') := cellAt hrow rfl
  have c6 : W.cell? ⟨n0, 6, none⟩ = some (.int .u64 keep) := cellAt hrow rfl
  have c7 : W.cell? ⟨n0, 7, none⟩ = some (.int .i64 torn) := cellAt hrow rfl
  have HC : Hid (∀ X, Below (n0 + 1) W X → X.cell? ⟨n0, 0, none⟩ = some (.int .i64 k) ∧ X.cell? ⟨n0, 1, none⟩ = some (.string p) ∧ X.cell? ⟨n0, 2, none⟩ = some (.string t) ∧ X.cell? ⟨n0, 3, none⟩ = some (.string s) ∧ X.cell? ⟨n0, 4, none⟩ = some (.int .i64 n) ∧ X.cell? ⟨n0, 5, none⟩ = some (.int .i64 at') ∧ X.cell? ⟨n0, 6, none⟩ = some (.int .u64 keep) ∧ X.cell? ⟨n0, 7, none⟩ = some (.int .i64 torn)) := hideIt (fun X hX => by
    have hr : X.heap[n0]? = some (.cells #[.int .i64 k, .string p, .string t, .string s, .int .i64 n, .int .i64 at', .int .u64 keep, .int .i64 torn] 40 (0, 0)) := by rw [hX.block n0 (by omega)]; exact hrow
    exact ⟨cellAt hr rfl, cellAt hr rfl, cellAt hr rfl, cellAt hr rfl, cellAt hr rfl, cellAt hr rfl, cellAt hr rfl, cellAt hr rfl⟩)
  have HMW : Hid (MaxAt W) := hideIt (hkW.max hm (by simp))
  have HBW : Hid (Below n0 w W) := hideIt (hkW.base n0 (by omega) (by simp))
  have HL : Hid (n0 + 1 ≤ W.heap.size) := hideIt (by omega)
  rw [hn0]
  clear hkW hrow hm
  have qs : (s1.toList == [49]) = true := by rw [ByteArray.toList_eq]; rfl
  have hgeq : decide (0 ≤ n) = true ∨ decide (0 ≤ n) = false := by cases decide (0 ≤ n) <;> simp
  rcases hgeq with hy | hy
  all_goals go_enter Tryz.func6, Tryz.ntmps6
  all_goals go_wp2_with (first | (go_at_call 21; refine (room_nil n _).mono ?_; rintro e wx ⟨rfl, hwx⟩; obtain rfl := hwx.symm) | (go_at_call 22; refine (plan_nil _ _).mono ?_; rintro e wx ⟨rfl, hwx⟩; obtain rfl := hwx.symm) | (go_at_call 17; refine (crash_nil keep n _).mono ?_; rintro e w1 ⟨rfl, hk1⟩; have HB1 : Hid (Below (n0 + 1) W w1) := hideIt (((Kept.alloc _ _).trans hk1).base (n0 + 1) HL.out (by simp)); have a4 := (HC.out w1 HB1.out).2.2.2.2.1; clear hk1) | (go_at_call_of 23 (Value.int IntKind.i64 n); refine (new_tells n _).mono ?_; rintro e w2 ⟨v2, m2, rfl, hm2, hk2⟩; rw [hy] at hm2; have HB2 : Hid (Below (n0 + 1) W w2) := hideIt (bbase HB1.out (hk2.base (n0 + 1) (Nat.le_trans HL.out HB1.out.size) (by simp))); clear hk2))
  all_goals go_wp2_with (first | (go_at_call 23; refine (new_at 10 _).mono ?_; rintro e w3 ⟨rfl, hf3, hk3, hz3⟩; have HB3 : Hid (Below (n0 + 1) W w3) := hideIt (bbase HB2.out (hk3.base (n0 + 1) (Nat.le_trans HL.out HB2.out.size) (by simp))); have HF3 := hideIt hf3; clear hf3 hk3 hz3))
  all_goals go_wp2_with (first | (go_at_call 12; refine (u1 (n0 := n0 + 1) HF3.out (HMW.out.base HB3.out (by omega)) (Nat.le_trans HL.out HB2.out.size)).mono ?_; rintro e w4 ⟨rfl, hu4, hb4⟩; have HB4 : Hid (Below (n0 + 1) W w4) := hideIt (bbase HB3.out hb4); have HU4 := hideIt hu4; clear hu4 hb4))
  all_goals go_wp2_with (first | (go_at_call 24; refine (u2 HU4.out).mono ?_; rintro e w5 ⟨cb, rfl, hu5, hb5⟩; have HB5 : Hid (Below (n0 + 1) W w5) := hideIt (bbase HB4.out hb5); have HU5 := hideIt hu5; clear hu5 hb5))
  all_goals go_wp2_with (first | (go_at_call 12; refine (u3 HU5.out (HMW.out.base HB5.out (by omega))).mono ?_; rintro e w6 ⟨rfl, hu6, hb6⟩; have HB6 : Hid (Below (n0 + 1) W w6) := hideIt (bbase HB5.out hb6); have HU6 := hideIt hu6; clear hu6 hb6))
  all_goals go_wp2_with (first | (go_at_call 19; refine (u4 (n0 := n0 + 1) HU6.out (HMW.out.base HB6.out (by omega)) (Nat.le_trans HL.out HB6.out.size)).mono ?_; rintro e w7 ⟨rfl, hb7⟩; have HB7 : Hid (Below (n0 + 1) W w7) := hideIt (bbase HB6.out hb7); clear hb7))
  all_goals go_wp2_with (first | (go_at_call 8; refine (awake_any _ (HMW.out.base HB7.out (by omega))).mono ?_; rintro e w8 ⟨rfl, hb8⟩; have HB8 : Hid (Below (n0 + 1) W w8) := hideIt (bbase HB7.out (hb8.mono (Nat.le_trans HL.out HB7.out.size))); obtain ⟨z0, z1, z2, z3, z4, z5, z6, z7⟩ := HC.out w8 HB8.out; clear hb8) | (go_at_call 16; refine (call_nil k p t s n at' keep torn hs _).mono ?_; rintro e w9 ⟨rfl, hk9⟩; have HB9 : Hid (Below (n0 + 1) W w9) := hideIt (bbase HB8.out (hk9.base (n0 + 1) (Nat.le_trans HL.out HB8.out.size) (by simp))); have y4 := (HC.out w9 HB9.out).2.2.2.2.1; clear hk9) | (go_at_call 25; refine (dead_nil _).mono ?_; rintro e wx ⟨rfl, hwx⟩; obtain rfl := hwx.symm) | (go_at_call 18; refine (up_nil _).mono ?_; rintro e wx ⟨rfl, hwx⟩; obtain rfl := hwx.symm) | (go_at_call 20; refine (used_nil _).mono ?_; rintro e wx ⟨rfl, hwx⟩; obtain rfl := hwx.symm) | (go_at_call 26; refine (steps_nil _).mono ?_; rintro e wx ⟨rfl, hwx⟩; obtain rfl := hwx.symm) | (go_at_call 27; refine (loose_nil _).mono ?_; rintro e wx ⟨rfl, hwx⟩; obtain rfl := hwx.symm) | (go_at_call 24; refine (clone_nil _).mono ?_; rintro e wx ⟨rfl, hwx⟩; obtain rfl := hwx.symm))
  all_goals go_ret
  all_goals exact ⟨rfl, HBW.out.trans (HB9.out.mono (Nat.le_succ _))⟩
end Go.Proofs.YtefefgiooknpkaaGreatDoor
