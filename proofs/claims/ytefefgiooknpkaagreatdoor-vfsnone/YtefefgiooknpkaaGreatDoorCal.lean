/- A call on a nil one, whatever it is: walked; and New, whatever the room. -/
import Derived.Test.YtefefgiooknpkaaGreatDoorNil
namespace Go.Proofs.YtefefgiooknpkaaGreatDoor
open Go.RowKit Go.Shelf Go.Maps
set_option maxRecDepth 100000
def fewV (s : ByteArray) : ByteArray := if 40 < s.size then s.extract 0 40 else s
theorem few_any (s : ByteArray) (w : World) (hs : s.size ≤ 9223372036854775807) : Calls Tryz.prog 30 #[.string s] w fun e w' => e = .returned (.string (fewV s)) ∧ w' = w := by
  by_cases h : 40 < s.size
  · have h1 : (40 : Int) < (s.size : Int) := by omega
    have e : fewV s = s.extract 0 40 := by rw [fewV, if_pos h]
    rw [e]
    clear e
    go_enter Tryz.func30, Tryz.ntmps30
    go_wp2
    go_ret
    exact ⟨rfl, rfl⟩
  · have h1 : ¬ (40 : Int) < (s.size : Int) := by omega
    have e : fewV s = s := by rw [fewV, if_neg h]
    rw [e]
    clear e
    go_enter Tryz.func30, Tryz.ntmps30
    go_wp2
    go_ret
    exact ⟨rfl, rfl⟩
/-- Something that is done, as it is handed on. -/
def actA (k : Int) (p t s : ByteArray) (n at' keep torn : Int) : Array Value := #[.int .i64 k, .string p, .string t, .string s, .int .i64 n, .int .i64 at', .int .u64 keep, .int .i64 torn]
set_option maxHeartbeats 1600000 in
theorem call_nil (k : Int) (p t s : ByteArray) (n at' keep torn : Int) (hs : s.size ≤ 9223372036854775807) (w : World) :
    Calls Tryz.prog 16 #[.pointer none, .agg #[.int .i64 k, .string p, .string t, .string s, .int .i64 n, .int .i64 at', .int .u64 keep, .int .i64 torn]] w fun e w' => e = .returned (.int .i64 7) ∧ Kept [] w w' := by
  obtain ⟨W, hW⟩ : ∃ W, w.alloc (.cells #[.int .i64 k, .string p, .string t, .string s, .int .i64 n, .int .i64 at', .int .u64 keep, .int .i64 torn] 40) = W := ⟨_, rfl⟩
  have hkW : Kept [] w W := by rw [← hW]; exact Kept.alloc _ _
  have hrow : W.heap[w.heap.size]? = some (.cells #[.int .i64 k, .string p, .string t, .string s, .int .i64 n, .int .i64 at', .int .u64 keep, .int .i64 torn] 40 (0, 0)) := by rw [← hW]; exact alloc_at rfl
  have c0 : W.cell? ⟨w.heap.size, 0, none⟩ = some (.int .i64 k) := cellAt hrow rfl
  have c1 : W.cell? ⟨w.heap.size, 1, none⟩ = some (.string p) := cellAt hrow rfl
  have c2 : W.cell? ⟨w.heap.size, 2, none⟩ = some (.string t) := cellAt hrow rfl
  have c3 : W.cell? ⟨w.heap.size, 3, none⟩ = some (.string s) := cellAt hrow rfl
  have HK := hideIt hkW
  have HR : Hid (∀ X, Kept [] W X → X.cell? ⟨w.heap.size, 1, none⟩ = some (.string p) ∧ X.cell? ⟨w.heap.size, 3, none⟩ = some (.string s)) := hideIt (fun X hX => ⟨cellAt (hX.fs hrow (by simp)) rfl, cellAt (hX.fs hrow (by simp)) rfl⟩)
  clear hkW hrow
  by_cases k0 : k = 0
  · subst k0
    go_enter Tryz.func16, Tryz.ntmps16
    go_wp2_with (first | (go_at_call 49; refine (mkdir_nil p _).mono ?_; rintro e w1 ⟨rfl, hk⟩))
    go_ret
    exact ⟨rfl, (HK.out.trans hk).sub (by simp)⟩
  by_cases k1 : k = 1
  · subst k1
    have HF := hideIt (few_any s)
    go_enter Tryz.func16, Tryz.ntmps16
    go_wp2
    go_region_held3 (fun X => X.cell? ⟨w.heap.size, 1, none⟩ = some (.string p) ∧ X.cell? ⟨w.heap.size, 3, none⟩ = some (.string s)) (first | exact ⟨c1, c3⟩ | exact HR.out _ hk | assumption) (first | (go_at_call 30; refine (HF.out _ hs).mono ?_; rintro e wx ⟨rfl, rfl⟩) | (go_at_call 12; refine (write_nil p _ _).mono ?_; rintro e w1 ⟨rfl, hk'⟩; have hk : Kept [] W w1 := ⟨hk'.os, hk'.tape, hk'.output, hk'.size, fun i hi hn => hk'.block i hi hn⟩))
    go_wp2
    go_ret
    exact ⟨rfl, (HK.out.trans hk).sub (by simp)⟩
  by_cases k2 : k = 2
  · subst k2
    go_enter Tryz.func16, Tryz.ntmps16
    go_wp2_with (first | (go_at_call 13; refine (sync_nil p _).mono ?_; rintro e w1 ⟨rfl, hk⟩))
    go_ret
    exact ⟨rfl, (HK.out.trans hk).sub (by simp)⟩
  by_cases k3 : k = 3
  · subst k3
    go_enter Tryz.func16, Tryz.ntmps16
    go_wp2_with (first | (go_at_call 15; refine (syncDir_nil p _).mono ?_; rintro e w1 ⟨rfl, hk⟩))
    go_ret
    exact ⟨rfl, (HK.out.trans hk).sub (by simp)⟩
  by_cases k4 : k = 4
  · subst k4
    go_enter Tryz.func16, Tryz.ntmps16
    go_wp2_with (first | (go_at_call 14; refine (rename_nil p t _).mono ?_; rintro e w1 ⟨rfl, hk⟩))
    go_ret
    exact ⟨rfl, (HK.out.trans hk).sub (by simp)⟩
  by_cases k5 : k = 5
  · subst k5
    go_enter Tryz.func16, Tryz.ntmps16
    go_wp2_with (first | (go_at_call 50; refine (remove_nil p _).mono ?_; rintro e w1 ⟨rfl, hk⟩))
    go_ret
    exact ⟨rfl, (HK.out.trans hk).sub (by simp)⟩
  by_cases k6 : k = 6
  · subst k6
    go_enter Tryz.func16, Tryz.ntmps16
    go_wp2_with (first | (go_at_call 19; refine (read_nil p _).mono ?_; rintro e w1 ⟨rfl, hk⟩))
    go_ret
    exact ⟨rfl, (HK.out.trans hk).sub (by simp)⟩
  have b0 : (k == 0) = false := by simpa using k0
  have b1 : (k == 1) = false := by simpa using k1
  have b2 : (k == 2) = false := by simpa using k2
  have b3 : (k == 3) = false := by simpa using k3
  have b4 : (k == 4) = false := by simpa using k4
  have b5 : (k == 5) = false := by simpa using k5
  have b6 : (k == 6) = false := by simpa using k6
  go_enter Tryz.func16, Tryz.ntmps16
  go_wp2_with (first | (go_at_call 33; refine (list_nil p _).mono ?_; rintro e w1 ⟨rfl, hk⟩))
  go_ret
  exact ⟨rfl, (HK.out.trans hk).sub (by simp)⟩
theorem new_bad (n : Int) (hn : n < 0) (w : World) : Calls Tryz.prog 23 #[.int .i64 n] w fun e w' => e = .returned (.tuple #[.pointer none, .int .i64 1]) ∧ w' = w := by
  have c2 : decide (n < 0) = true := decide_eq_true hn
  go_enter Tryz.func23, Tryz.ntmps23
  go_wp2
  go_ret2
  exact ⟨rfl, rfl⟩
/-- New, whatever the room: whether there is one. -/
theorem new_tells (n : Int) (w : World) : Calls Tryz.prog 23 #[.int .i64 n] w fun e w' => ∃ v m, e = .returned (.tuple #[v, .int .i64 m]) ∧ (m == 0) = decide (0 ≤ n) ∧ Kept [] w w' := by
  by_cases hn : n < 0
  · exact (new_bad n hn w).mono fun e w' ⟨h1, h2⟩ => ⟨_, 1, h1, by rw [decide_eq_false (by omega)]; rfl, h2 ▸ Kept.refl _ _⟩
  · obtain ⟨m, rfl⟩ : ∃ m : Nat, n = (m : Int) := ⟨n.toNat, by omega⟩
    exact (new_any m w).mono fun e w' ⟨h1, h2⟩ => ⟨_, 0, h1, by rw [decide_eq_true (by omega)]; rfl, h2 ▸ Kept.alloc _ _⟩
end Go.Proofs.YtefefgiooknpkaaGreatDoor
