/- A text cut at a byte, and a text's copy: the library's own, laid in plain words. -/
import Derived.Test.YtdbbgpcjclmelaaGreatDoorOp
import Derived.Test.YtdbbgpcjclmelaaGreatDoorShelf
import Derived.WalkKit
import Derived.BigRegion
import Derived.Deep.QuietTactic
import Derived.OwnWalk
namespace Go.Proofs.YtdbbgpcjclmelaaGreatDoor
namespace Ob
open Go.RowKit Go.Shelf
/-- The one word of the library's that a cut of texts reads is a number. -/
def MaxAt (w : World) : Prop := ∃ m, w.cell? ⟨1, 0, none⟩ = some (.int .i64 m)
theorem MaxAt.pos {w : World} (h : MaxAt w) : 1 < w.heap.size := by
  obtain ⟨m, h⟩ := h
  by_cases hz : 1 < w.heap.size
  · exact hz
  · have : w.heap[1]? = none := Array.getElem?_eq_none (by omega)
    simp [World.cell?, this] at h
theorem MaxAt.keep {w w' : World} (h : MaxAt w) (hb : w'.heap[1]? = w.heap[1]?) : MaxAt w' := by
  obtain ⟨m, h⟩ := h
  exact ⟨m, by rw [World.cell?_of_block (w := w) hb, h]⟩
theorem MaxAt.below {w w' : World} (h : MaxAt w) (hb : Below w.heap.size w w') : MaxAt w' := h.keep (hb.block _ h.pos)
theorem new_below (w : World) (o : Obj) : Below w.heap.size w (w.alloc o) := (Below.refl _ _).alloc (Nat.le_refl _) _
theorem below_drewN (w : World) (n : Nat) : Below w.heap.size w (w.drewN n) := ⟨rfl, rfl, rfl, Nat.le_refl _, fun _ _ => rfl⟩
theorem index_none (c : UInt8) (l : List UInt8) (h : c ∉ l) : Lib.index l [c] = -1 := by
  induction l with
  | nil => rfl
  | cons d r ih =>
    have hc : d ≠ c := fun e => h (by simp [e])
    have hr := ih (fun e => h (by simp [e]))
    rw [Lib.index, hr]
    have : ([c] : List UInt8).isPrefixOf (d :: r) = false := by simp [List.isPrefixOf]; exact fun e => hc e.symm
    simp [this]
theorem index_some (c : UInt8) (a r : List UInt8) (h : c ∉ a) : Lib.index (a ++ c :: r) [c] = (a.length : Nat) := by
  induction a with
  | nil => simp [Lib.index, List.isPrefixOf]
  | cons d a ih =>
    have hc : d ≠ c := fun e => h (by simp [e])
    have hr := ih (fun e => h (by simp [e]))
    rw [List.cons_append, Lib.index, hr]
    have : ([c] : List UInt8).isPrefixOf (d :: (a ++ c :: r)) = false := by simp [List.isPrefixOf]; exact fun e => hc e.symm
    rw [this]
    have h2 : ((a.length : Nat) : Int) ≠ -1 := by omega
    simp [h2]
theorem cut_none (c : UInt8) (l : List UInt8) (h : c ∉ l) : Lib.cut l [c] = (l, [], false) := by
  rw [Lib.cut, index_none c l h]
  rfl
theorem cut_some (c : UInt8) (a r : List UInt8) (h : c ∉ a) : Lib.cut (a ++ c :: r) [c] = (a, r, true) := by
  rw [Lib.cut, index_some c a r h, if_pos (by omega)]
  simp [List.drop_append]
theorem cut_at (c : UInt8) (l : List UInt8) : c ∉ l ∨ ∃ a r, l = a ++ c :: r ∧ c ∉ a := by
  induction l with
  | nil => exact .inl (by simp)
  | cons d l ih =>
    by_cases hc : d = c
    · exact .inr ⟨[], l, by simp [hc], by simp⟩
    · rcases ih with h | ⟨a, r, e, ha⟩
      · exact .inl (by simp [h]; exact fun e => hc e.symm)
      · exact .inr ⟨d :: a, r, by simp [e], by simp [ha]; exact fun e => hc e.symm⟩
theorem sCut_none (L : List UInt8) (c : UInt8) (hL : L.length ≤ 1000000) (h : c ∉ L) (w : World) (hm : MaxAt w) :
    Calls Tryz.prog 106 #[.string (bs L), .string ⟨#[c]⟩] w fun e w' => e = .returned (.tuple #[.string (bs L), .string ⟨#[]⟩, .bool false]) ∧ Below w.heap.size w w' := by
  obtain ⟨m, hm⟩ := hm
  refine (Tryz.strings_Cut (bs L) ⟨#[c]⟩ m w (by rw [bs_size]; omega) hm).mono ?_
  rintro e w' ⟨rfl, n, rfl⟩
  rw [bs_list, show (⟨#[c]⟩ : ByteArray).data.toList = [c] from rfl, cut_none c L h]
  exact ⟨rfl, below_drewN _ _⟩
theorem sCut_some (a r : List UInt8) (c : UInt8) (hL : a.length + r.length < 1000000) (h : c ∉ a) (w : World) (hm : MaxAt w) :
    Calls Tryz.prog 106 #[.string (bs (a ++ c :: r)), .string ⟨#[c]⟩] w fun e w' => e = .returned (.tuple #[.string (bs a), .string (bs r), .bool true]) ∧ Below w.heap.size w w' := by
  obtain ⟨m, hm⟩ := hm
  refine (Tryz.strings_Cut (bs (a ++ c :: r)) ⟨#[c]⟩ m w (by rw [bs_size]; simp; omega) hm).mono ?_
  rintro e w' ⟨rfl, n, rfl⟩
  rw [bs_list, show (⟨#[c]⟩ : ByteArray).data.toList = [c] from rfl, cut_some c a r h]
  exact ⟨rfl, below_drewN _ _⟩
theorem clone_any (s : ByteArray) (w : World) (hs : s.size ≤ 281474976710656) : Calls Tryz.prog 17 #[.string s] w fun e w' => e = .returned (.string s) ∧ Below w.heap.size w w' := by
  have H := hideIt (fun w => Tryz.stringslite_Clone s w hs)
  go_enter Tryz.func17, Tryz.ntmps17
  go_wp2_with (first | (go_at_call 29; refine (H.out _).mono ?_; rintro e w1 ⟨rfl, hb⟩))
  go_ret
  exact ⟨rfl, hb⟩
/-- The library's cut of a text at one byte. -/
def cutV (c : UInt8) (L : List UInt8) : Value := match cutc c L with
  | none => .tuple #[.string (bs L), .string ⟨#[]⟩, .bool false]
  | some (a, r) => .tuple #[.string (bs a), .string (bs r), .bool true]
theorem sCut_any (L : List UInt8) (c : UInt8) (hL : L.length ≤ 1000000) (w : World) (hm : MaxAt w) :
    Calls Tryz.prog 106 #[.string (bs L), .string ⟨#[c]⟩] w fun e w' => e = .returned (cutV c L) ∧ Below w.heap.size w w' := by
  cases h : cutc c L with
  | none =>
    have e : cutV c L = .tuple #[.string (bs L), .string ⟨#[]⟩, .bool false] := by rw [cutV, h]
    rw [e]
    exact sCut_none L c hL ((cutc_none c L).1 h) w hm
  | some p =>
    obtain ⟨a, r⟩ := p
    have e : cutV c L = .tuple #[.string (bs a), .string (bs r), .bool true] := by rw [cutV, h]
    obtain ⟨rfl, hn⟩ := cutc_some c L a r h
    rw [e]
    exact sCut_some a r c (by simp at hL; omega) hn w hm
end Ob
end Go.Proofs.YtdbbgpcjclmelaaGreatDoor
