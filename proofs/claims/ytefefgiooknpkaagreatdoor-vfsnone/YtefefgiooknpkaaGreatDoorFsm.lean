/- The memory of folders and files: the block of the whole, of a file, of maps; small functions walked. -/
import Derived.Test.YtefefgiooknpkaaGreatDoorPathw
import Derived.Maps.OwnSet
import Derived.Maps.OwnOps
namespace Go.Proofs.YtefefgiooknpkaaGreatDoor
open Go.RowKit Go.Shelf Go.Maps Go.WideMaps
/-- The cells of the whole. -/
def fsv (now sure done unsure : Value) (came used room steps : Int) (plan : Value) (dead : Bool) : Array Value :=
  #[now, sure, done, unsure, .int .i64 came, .int .i64 used, .int .i64 room, .int .i64 steps, plan, .bool dead]
/-- The cells of a file. -/
def filev (number : Int) (now sure : ByteArray) (links : Int) : Array Value := #[.int .i64 number, .string now, .string sure, .int .i64 links]
theorem cellAt {w : World} {b i : Nat} {arr : Array Value} {t : TypeId} {v : Value} (h : w.heap[b]? = some (.cells arr t (0, 0))) (hi : arr[i]? = some v) : w.cell? ⟨b, i, none⟩ = some v := by simp [World.cell?, h, hi]
theorem thawAt {w : World} {b : Nat} {arr : Array Value} {t : TypeId} (h : w.heap[b]? = some (.cells arr t (0, 0))) (i : Nat) : w.frozen? ⟨b, i, none⟩ = false := by simp [World.frozen?, h]
theorem block_lt {w : World} {b : Nat} {o : Obj} (h : w.heap[b]? = some o) : b < w.heap.size := by
  by_cases hb : b < w.heap.size
  · exact hb
  · rw [Array.getElem?_eq_none (by omega)] at h; cases h
theorem heap_drew1 (w : World) : w.drew.heap = w.heap := rfl
/-- How an element that is an address is told: by itself. -/
def anyE (v : Value) : Option (DataW Value × List MemPlace) := some (.held v, [])
theorem kS : Keyed Tryz.prog 9 := string_keyed Tryz.underlying9
theorem kI : Keyed Tryz.prog 3 := int_keyed Tryz.underlying3
theorem zeroP (w : World) : (zeroValue 80).run Tryz.prog w = .ok (.pointer none) w := by kernel_rfl
abbrev NMap (w : World) (b n : Nat) (D : DataW Value) : Prop := w.ownsMap Tryz.prog 9 anyE b n D
abbrev UMap (w : World) (b n : Nat) (D : DataW Value) : Prop := w.ownsMap Tryz.prog 3 anyE b n D
def valOf : DataW Value → Value
  | .held v => v
  | _ => .pointer none
def key (p : ByteArray) : Lit := .string p.data.toList
def valAt (D : DataW Value) (k : Lit) : Value := valOf (D.atKey k (.held (.pointer none)))
theorem keyS (p : ByteArray) (h : p.size ≤ maxLen) : keyOf Tryz.prog 9 (.string p) = some (key p) := keyOf_string_mk Tryz.underlying9 h
theorem look_ok {w : World} {b n : Nat} {D : DataW Value} (h : NMap w b n D) (p : ByteArray) (hp : p.size ≤ maxLen) :
    (Instr.lookup 75 (.map (some b)) (.string p) true).run Tryz.prog w = .ok (.tuple #[valAt D (key p), .bool (Maps.has D (key p))]) w := by
  obtain ⟨v, ps, hrun, hv⟩ := h.look_ok (t := 75) (zd := .held (.pointer none)) (zp := []) kS Tryz.underlying75 (zeroP w) rfl (keyS p hp)
  simp only [anyE, Option.some.injEq, Prod.mk.injEq] at hv
  rw [hrun, valAt, ← hv.1]
  rfl
theorem look_at {w : World} {b n : Nat} {D : DataW Value} (h : NMap w b n D) (p : ByteArray) (hp : p.size ≤ maxLen) :
    (Instr.lookup 75 (.map (some b)) (.string p) false).run Tryz.prog w = .ok (valAt D (key p)) w := by
  obtain ⟨v, ps, hrun, hv⟩ := h.lookup (t := 75) (zd := .held (.pointer none)) (zp := []) kS Tryz.underlying75 (zeroP w) rfl (keyS p hp)
  simp only [anyE, Option.some.injEq, Prod.mk.injEq] at hv
  rw [hrun, valAt, ← hv.1]
  rfl
theorem look_nil_ok (w : World) (p : ByteArray) (hp : p.size ≤ maxLen) : (Instr.lookup 75 (.map none) (.string p) true).run Tryz.prog w = .ok (.tuple #[.pointer none, .bool false]) w :=
  Maps.look_nil true kS Tryz.underlying75 (zeroP w) (keyS p hp)
theorem look_nil_at (w : World) (p : ByteArray) (hp : p.size ≤ maxLen) : (Instr.lookup 75 (.map none) (.string p) false).run Tryz.prog w = .ok (.pointer none) w :=
  Maps.look_nil false kS Tryz.underlying75 (zeroP w) (keyS p hp)
/-- The folder in which a path stands. -/
def dirOf (p : ByteArray) : ByteArray := p.extract 0 (max (Lib.lastIndexByte p 47) 0).toNat
set_option maxHeartbeats 400000 in
theorem folderOf_any (p : ByteArray) (w : World) (hs : p.size ≤ 140737488355328) : Calls Tryz.prog 37 #[.string p] w fun e w' => e = .returned (.string (dirOf p)) ∧ w' = w := by
  have HL := hideIt (Tryz.strings_LastIndexByte p 47 (by omega))
  have hr : Lib.lastIndexByte p 47 < (p.size : Int) := by rcases Lib.lastIndexByte_spec p 47 with h | ⟨i, h1, h2, _⟩ <;> omega
  obtain ⟨i, hi⟩ : ∃ i, Lib.lastIndexByte p 47 = i := ⟨_, rfl⟩
  have hd : dirOf p = p.extract 0 (max i 0).toNat := by rw [dirOf, hi]
  rw [hi] at HL hr
  obtain ⟨j, hj⟩ : ∃ j : Nat, max i 0 = (j : Int) := ⟨(max i 0).toNat, by omega⟩
  rw [hj, Int.toNat_natCast] at hd
  rw [hd]
  have b0 : (0 : Int) ≤ (j : Int) := by omega
  have b1 : (j : Int) ≤ (p.size : Int) := by omega
  clear hi hd hr
  go_enter Tryz.func37, Tryz.ntmps37
  go_wp2_with (first | (go_at_call 75; refine (HL.out _).mono ?_; rintro e w1 ⟨rfl, rfl⟩))
  go_ret
  exact ⟨rfl, rfl⟩
set_option maxHeartbeats 400000 in
theorem dead_any {w : World} {fb : Nat} {now sure done unsure plan : Value} {came used room steps : Int} {dead : Bool} (h : w.heap[fb]? = some (.cells (fsv now sure done unsure came used room steps plan dead) 79 (0, 0))) :
    Calls Tryz.prog 25 #[.pointer (some ⟨fb, 0, none⟩)] w fun e w' => e = .returned (.bool dead) ∧ w' = w := by
  have c9 := cellAt (i := 9) h rfl
  clear h
  go_enter Tryz.func25, Tryz.ntmps25
  go_wp2
  go_ret
  exact ⟨rfl, rfl⟩
set_option maxHeartbeats 400000 in
theorem new_any (room : Nat) (w : World) : Calls Tryz.prog 23 #[.int .i64 (room : Int)] w fun e w' => e = .returned (.tuple #[.pointer (some ⟨w.heap.size, 0, none⟩), .int .i64 0]) ∧
    w' = w.alloc (.cells (fsv (.map none) (.map none) (.slice none 0 0) (.map none) 0 0 room 0 (.slice none 0 0) false) 79) := by
  have c1 : ¬ (room : Int) < 0 := by omega
  have c2 : decide ((room : Int) < 0) = false := decide_eq_false c1
  go_enter Tryz.func23, Tryz.ntmps23
  go_wp2
  go_ret2
  exact ⟨rfl, rfl⟩
end Go.Proofs.YtefefgiooknpkaaGreatDoor
