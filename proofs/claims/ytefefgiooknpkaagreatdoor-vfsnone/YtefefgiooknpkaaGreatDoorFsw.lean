/- Small methods of the whole, walked. -/
import Derived.Test.YtefefgiooknpkaaGreatDoorFsm
import Derived.LoopN
namespace Go.Proofs.YtefefgiooknpkaaGreatDoor
open Go.RowKit Go.Shelf Go.Maps
abbrev FsAt (w : World) (fb : Nat) (now sure done unsure : Value) (came used room steps : Int) (dead : Bool) : Prop :=
  w.heap[fb]? = some (.cells (fsv now sure done unsure came used room steps (.slice none 0 0) dead) 79 (0, 0))
section
variable {w : World} {fb : Nat} {now sure done unsure : Value} {came used room steps : Int} {dead : Bool}
theorem fs0 (h : FsAt w fb now sure done unsure came used room steps dead) : w.cell? ⟨fb, 0, none⟩ = some now := cellAt h rfl
theorem fs1 (h : FsAt w fb now sure done unsure came used room steps dead) : w.cell? ⟨fb, 1, none⟩ = some sure := cellAt h rfl
theorem fs2 (h : FsAt w fb now sure done unsure came used room steps dead) : w.cell? ⟨fb, 2, none⟩ = some done := cellAt h rfl
theorem fs3 (h : FsAt w fb now sure done unsure came used room steps dead) : w.cell? ⟨fb, 3, none⟩ = some unsure := cellAt h rfl
theorem fs4 (h : FsAt w fb now sure done unsure came used room steps dead) : w.cell? ⟨fb, 4, none⟩ = some (.int .i64 came) := cellAt h rfl
theorem fs5 (h : FsAt w fb now sure done unsure came used room steps dead) : w.cell? ⟨fb, 5, none⟩ = some (.int .i64 used) := cellAt h rfl
theorem fs6 (h : FsAt w fb now sure done unsure came used room steps dead) : w.cell? ⟨fb, 6, none⟩ = some (.int .i64 room) := cellAt h rfl
theorem fs7 (h : FsAt w fb now sure done unsure came used room steps dead) : w.cell? ⟨fb, 7, none⟩ = some (.int .i64 steps) := cellAt h rfl
theorem fs8 (h : FsAt w fb now sure done unsure came used room steps dead) : w.cell? ⟨fb, 8, none⟩ = some (.slice none 0 0) := cellAt h rfl
theorem fs9 (h : FsAt w fb now sure done unsure came used room steps dead) : w.cell? ⟨fb, 9, none⟩ = some (.bool dead) := cellAt h rfl
end
section
variable {w : World} {xb : Nat} {number links : Int} {now sure : ByteArray}
abbrev FileAt (w : World) (xb : Nat) (number : Int) (now sure : ByteArray) (links : Int) : Prop := w.heap[xb]? = some (.cells (filev number now sure links) 82 (0, 0))
theorem fl0 (h : FileAt w xb number now sure links) : w.cell? ⟨xb, 0, none⟩ = some (.int .i64 number) := cellAt h rfl
theorem fl1 (h : FileAt w xb number now sure links) : w.cell? ⟨xb, 1, none⟩ = some (.string now) := cellAt h rfl
theorem fl2 (h : FileAt w xb number now sure links) : w.cell? ⟨xb, 2, none⟩ = some (.string sure) := cellAt h rfl
theorem fl3 (h : FileAt w xb number now sure links) : w.cell? ⟨xb, 3, none⟩ = some (.int .i64 links) := cellAt h rfl
end
def errPath (p : ByteArray) : Int := if pathL p.data.toList then 0 else 30
set_option maxHeartbeats 800000 in
set_option maxRecDepth 100000 in
theorem hindered_one {w : World} {fb : Nat} {now sure done unsure : Value} {came used room steps : Int} (h : FsAt w fb now sure done unsure came used room steps false) (hm : MaxAt w) (p : ByteArray) (hs : p.size ≤ 140737488355328) (sb : Nat) (t : TypeId)
    (hrow : w.heap[sb]? = some (.cells #[.string p] t (0, 0))) :
    Calls Tryz.prog 35 #[.pointer (some ⟨fb, 0, none⟩), .slice (some ⟨sb, 0, none⟩) 1 1] w fun e w' => e = .returned (.int .i64 (errPath p)) ∧ Below w.heap.size w w' := by
  have HD := hideIt (dead_any h)
  have HP := hideIt (path_any p w hm hs)
  have c0 := cellAt (i := 0) hrow rfl
  have HE : Hid (errPath p = if pathL p.data.toList then 0 else 30) := hideIt rfl
  clear h hrow
  generalize pathL p.data.toList = x at HP HE
  cases x
  · go_enter Tryz.func35, Tryz.ntmps35
    go_wp2_with (first | (go_at_call 25; refine HD.out.mono ?_; rintro e w1 ⟨rfl, rfl⟩))
    refine wp_loop_rounds 1 ?_
    rw [rounds_succ]
    go_wp2_with (first | (go_at_call 76; refine HP.out.mono ?_; rintro e w2 ⟨rfl, hb2⟩))
    go_ret
    exact ⟨by rw [HE.out]; rfl, hb2⟩
  · go_enter Tryz.func35, Tryz.ntmps35
    go_wp2_with (first | (go_at_call 25; refine HD.out.mono ?_; rintro e w1 ⟨rfl, rfl⟩))
    refine wp_loop_rounds 2 ?_
    rw [rounds_succ]
    go_wp2_with (first | (go_at_call 76; refine HP.out.mono ?_; rintro e w2 ⟨rfl, hb2⟩))
    rw [rounds_succ]
    go_wp2
    go_ret
    exact ⟨by rw [HE.out]; rfl, hb2⟩
set_option maxHeartbeats 800000 in
theorem hindered_none {w : World} {fb : Nat} {now sure done unsure : Value} {came used room steps : Int} (h : FsAt w fb now sure done unsure came used room steps false) :
    Calls Tryz.prog 35 #[.pointer (some ⟨fb, 0, none⟩), .slice none 0 0] w fun e w' => e = .returned (.int .i64 0) ∧ w' = w := by
  have HD := hideIt (dead_any h)
  clear h
  go_enter Tryz.func35, Tryz.ntmps35
  go_wp2_with (first | (go_at_call 25; refine HD.out.mono ?_; rintro e w1 ⟨rfl, rfl⟩))
  refine wp_loop_rounds 1 ?_
  rw [rounds_succ]
  go_wp2
  go_ret
  exact ⟨rfl, rfl⟩
set_option maxHeartbeats 400000 in
theorem folder_root {w : World} {m : Value} (hm : m = .map none ∨ ∃ b n D, m = .map (some b) ∧ NMap w b n D) :
    Calls Tryz.prog 36 #[m, .string ⟨#[]⟩] w fun e w' => e = .returned (.bool true) ∧ w' = w := by
  rcases hm with rfl | ⟨b, n, D, rfl, h⟩
  · have hl := look_nil_ok w ⟨#[]⟩ (by decide)
    go_enter Tryz.func36, Tryz.ntmps36
    go_wp2
    go_ret
    exact ⟨rfl, rfl⟩
  · have hl := look_ok h ⟨#[]⟩ (by decide)
    generalize valAt D (key ⟨#[]⟩) = v at hl
    generalize Maps.has D (key ⟨#[]⟩) = y at hl
    clear h
    go_enter Tryz.func36, Tryz.ntmps36
    go_wp2
    go_ret
    exact ⟨rfl, rfl⟩
set_option maxHeartbeats 400000 in
theorem folder_none {w : World} (p : ByteArray) (hp : p.size ≤ 140737488355328) (h0 : p.data.toList ≠ []) :
    Calls Tryz.prog 36 #[.map none, .string p] w fun e w' => e = .returned (.bool false) ∧ w' = w := by
  have hl := look_nil_ok w p (by unfold maxLen; omega)
  have e1 : (p.toList == []) = false := by rw [ByteArray.toList_eq]; simpa using h0
  have e2 : p.toList.isEmpty = false := by rw [ByteArray.toList_eq]; simpa using h0
  go_enter Tryz.func36, Tryz.ntmps36
  go_wp2
  go_ret
  exact ⟨rfl, rfl⟩
set_option maxHeartbeats 400000 in
theorem folder_gone {w : World} {b n : Nat} {D : DataW Value} (h : NMap w b n D) (p : ByteArray) (hp : p.size ≤ 140737488355328) (h0 : p.data.toList ≠ []) (hh : Maps.has D (key p) = false) :
    Calls Tryz.prog 36 #[.map (some b), .string p] w fun e w' => e = .returned (.bool false) ∧ w' = w := by
  have hl := look_ok h p (by unfold maxLen; omega)
  have e1 : (p.toList == []) = false := by rw [ByteArray.toList_eq]; simpa using h0
  have e2 : p.toList.isEmpty = false := by rw [ByteArray.toList_eq]; simpa using h0
  rw [hh] at hl
  generalize valAt D (key p) = v at hl
  clear h hh
  go_enter Tryz.func36, Tryz.ntmps36
  go_wp2
  go_ret
  exact ⟨rfl, rfl⟩
set_option maxHeartbeats 400000 in
set_option maxRecDepth 100000 in
theorem file_there {w : World} {fb b n xb : Nat} {D : DataW Value} {sure done unsure : Value} {came used room steps : Int} {dead : Bool} (h : FsAt w fb (.map (some b)) sure done unsure came used room steps dead) (hm : NMap w b n D) (p : ByteArray) (hp : p.size ≤ 140737488355328)
    (hh : Maps.has D (key p) = true) (hv : valAt D (key p) = .pointer (some ⟨xb, 0, none⟩)) :
    Calls Tryz.prog 42 #[.pointer (some ⟨fb, 0, none⟩), .string p] w fun e w' => e = .returned (.tuple #[.pointer (some ⟨xb, 0, none⟩), .int .i64 0]) ∧ w' = w := by
  have hl := look_ok hm p (by unfold maxLen; omega)
  have c0 := fs0 h
  rw [hh, hv] at hl
  clear h hm hh hv
  go_enter Tryz.func42, Tryz.ntmps42
  go_wp2
  go_ret2
  exact ⟨rfl, rfl⟩
set_option maxHeartbeats 400000 in
set_option maxRecDepth 100000 in
theorem file_gone {w : World} {fb b n : Nat} {D : DataW Value} {sure done unsure : Value} {came used room steps : Int} {dead : Bool} (h : FsAt w fb (.map (some b)) sure done unsure came used room steps dead) (hm : NMap w b n D) (p : ByteArray) (hp : p.size ≤ 140737488355328)
    (hh : Maps.has D (key p) = false) :
    Calls Tryz.prog 42 #[.pointer (some ⟨fb, 0, none⟩), .string p] w fun e w' => e = .returned (.tuple #[.pointer none, .int .i64 2]) ∧ w' = w := by
  have hl := look_ok hm p (by unfold maxLen; omega)
  have c0 := fs0 h
  rw [hh] at hl
  generalize valAt D (key p) = v at hl
  clear h hm hh
  go_enter Tryz.func42, Tryz.ntmps42
  go_wp2
  go_ret2
  exact ⟨rfl, rfl⟩
end Go.Proofs.YtefefgiooknpkaaGreatDoor
