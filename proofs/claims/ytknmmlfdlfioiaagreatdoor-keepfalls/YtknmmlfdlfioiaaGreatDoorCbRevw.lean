/- A slice of bytes turned around in its place by the library, walked. -/
import Derived.Test.YtknmmlfdlfioiaaGreatDoorCbOwn
namespace Go.Proofs.YtknmmlfdlfioiaaGreatDoor.Cb
open Go.RowKit
def rowR (l : List UInt8) (rest : List Value) : Array Value := (u8s l ++ rest).toArray
theorem rowR_at (l : List UInt8) (rest : List Value) (j : Nat) (h : j < l.length) : (rowR l rest)[j]? = some (.int .u8 ((l[j]).toNat : Int)) := by
  rw [rowR, List.getElem?_toArray, List.getElem?_append_left (by rw [u8s_len]; exact h), u8s_at l j h]
theorem rowR_set (l : List UInt8) (rest : List Value) (i : Nat) (v : UInt8) (h : i < l.length) : (rowR l rest).setIfInBounds i (.int .u8 (v.toNat : Int)) = rowR (l.set i v) rest := by
  rw [rowR, List.setIfInBounds_toArray, List.set_append_left _ _ (by rw [u8s_len]; exact h)]
  simp [rowR, u8s, List.map_set]
theorem row_setR {w : World} {g i : Nat} {l : List UInt8} {rest : List Value} {t : TypeId} (v : UInt8) (h : w.heap[g]? = some (.cells (rowR l rest) t (0, 0))) (hi : i < l.length) :
    (w.setCell ⟨g, i, none⟩ (.int .u8 (v.toNat : Int))).heap[g]? = some (.cells (rowR (l.set i v) rest) t (0, 0)) := by
  rw [heap_setCell_same w g i _ t _ h, rowR_set _ _ _ _ hi]
/-- The list, its first i and its last i exchanged. -/
def part (l : List UInt8) (i : Nat) : List UInt8 := (List.range l.length).map fun p => if p < i ∨ l.length ≤ p + i then l.getD (l.length - 1 - p) 0 else l.getD p 0
theorem part_len (l : List UInt8) (i : Nat) : (part l i).length = l.length := by simp [part]
theorem part_at (l : List UInt8) (i p : Nat) (h : p < (part l i).length) : (part l i)[p] = if p < i ∨ l.length ≤ p + i then l.getD (l.length - 1 - p) 0 else l.getD p 0 := by
  simp [part]
theorem part_zero (l : List UInt8) : part l 0 = l := by
  apply List.ext_getElem (part_len _ _)
  intro p h1 h2
  rw [part_at, if_neg (by omega)]
  simp [List.getD, h2]
theorem part_full (l : List UInt8) (i : Nat) (h : l.length ≤ 2 * i + 1) : part l i = l.reverse := by
  apply List.ext_getElem (by rw [part_len, List.length_reverse])
  intro p h1 h2
  rw [part_len] at h1
  rw [part_at, List.getElem_reverse]
  split
  · simp [List.getD, show l.length - 1 - p < l.length by omega]
  · have : p = l.length - 1 - p := by omega
    have e : l.getD p 0 = l.getD (l.length - 1 - p) 0 := by rw [← this]
    rw [e]
    simp [List.getD, show l.length - 1 - p < l.length by omega]
theorem part_next (l : List UInt8) (i j : Nat) (hij : i + j + 1 = l.length) (hlt : i < j) : ((part l i).set i (l.getD j 0)).set j (l.getD i 0) = part l (i + 1) := by
  apply List.ext_getElem (by simp [part_len])
  intro p h1 h2
  rw [part_len] at h2
  rw [List.getElem_set, List.getElem_set, part_at, part_at]
  by_cases e1 : j = p
  · subst e1
    rw [if_pos rfl, if_pos (by omega), show l.length - 1 - j = i by omega]
  · rw [if_neg e1]
    by_cases e2 : i = p
    · subst e2
      rw [if_pos rfl, if_pos (by omega), show l.length - 1 - i = j by omega]
    · rw [if_neg e2]
      by_cases e3 : p < i ∨ l.length ≤ p + i
      · rw [if_pos e3, if_pos (by omega)]
      · rw [if_neg e3, if_neg (by omega)]
theorem part_next' (l : List UInt8) (i j : Nat) (hij : i + j + 1 = l.length) (hlt : i < j) : ((part l i).set j (l.getD i 0)).set i (l.getD j 0) = part l (i + 1) := by
  rw [List.set_comm _ _ (by omega), part_next l i j hij hlt]
structure RevMem (g : Nat) (l : List UInt8) (rest : List Value) (w0 w : World) : Prop where
  below : Below g w0 w
  row : w.heap[g]? = some (.cells (rowR l rest) 5 (0, 0))
theorem RevMem.put {g i : Nat} {l : List UInt8} {rest : List Value} {w0 w : World} (h : RevMem g l rest w0 w) (v : UInt8) (hi : i < l.length) : RevMem g (l.set i v) rest w0 (w.setCell ⟨g, i, none⟩ (.int .u8 (v.toNat : Int))) :=
  ⟨h.below.setCell (p := ⟨g, i, none⟩) (Nat.le_refl _) _, row_setR v h.row hi⟩
theorem RevMem.drew {g : Nat} {l : List UInt8} {rest : List Value} {w0 w : World} (h : RevMem g l rest w0 w) : RevMem g l rest w0 w.drew := ⟨h.below.drew, h.row⟩
set_option maxHeartbeats 800000 in
set_option maxRecDepth 100000 in
theorem rev_any (g n cap : Nat) (l : List UInt8) (rest : List Value) (w : World) (hl : l.length = n) (h1 : 1 ≤ n) (h2 : n ≤ 100) (hrow : w.heap[g]? = some (.cells (rowR l rest) 5 (0, 0))) :
    Calls Tryz.prog 73 #[.slice (some ⟨g, 0, none⟩) n cap] w fun e w' => e = .returned (.tuple #[]) ∧ RevMem g l.reverse rest w w' := by
  obtain ⟨m, hm⟩ : ∃ m, n = m + 1 := ⟨n - 1, by omega⟩
  have n1 : (n : Int) - 1 = (m : Int) := by omega
  have HL := hideIt hl
  have HM := hideIt hm
  have HR := hideIt hrow
  clear hl hm hrow
  go_enter Tryz.func73, Tryz.ntmps73
  go_wp2
  go_loopw [2, 3] (fun a b wr => ∃ i j : Nat, i + j + 1 = n ∧ a = .int .i64 i ∧ b = .int .i64 j ∧ RevMem g (part l i) rest w wr) (fun a _ _ => n - (intOf a).toNat)
  case atStart => exact ⟨0, m, by have := HM.out; omega, rfl, rfl, Below.refl _ _, by rw [part_zero]; exact HR.out⟩
  case round =>
    obtain ⟨i, j, hij, rfl, rfl, hr⟩ := hrel
    clear n1
    by_cases hlt : i < j
    · have hid : decide ((i : Int) < (j : Int)) = true := by simp; omega
      have hl := HL.out
      have e1 : (part l i)[i]'(by rw [part_len]; omega) = l.getD i 0 := by rw [part_at, if_neg (by omega)]
      have e2 : (part l i)[j]'(by rw [part_len]; omega) = l.getD j 0 := by rw [part_at, if_neg (by omega)]
      have HA := hideIt (part_next l i j (by omega) hlt)
      have HB := hideIt (part_next' l i j (by omega) hlt)
      obtain ⟨x, hx⟩ : ∃ x, l.getD i 0 = x := ⟨_, rfl⟩
      obtain ⟨y, hy⟩ : ∃ y, l.getD j 0 = y := ⟨_, rfl⟩
      rw [hx, hy] at HA HB
      rw [hx] at e1
      rw [hy] at e2
      have c1 : wr.cell? ⟨g, i, none⟩ = some (.int .u8 (x.toNat : Int)) := by rw [cell_of_row _ _ i _ _ _ hr.row, rowR_at _ _ _ (by rw [part_len]; omega), e1]
      have c2 : wr.cell? ⟨g, j, none⟩ = some (.int .u8 (y.toNat : Int)) := by rw [cell_of_row _ _ j _ _ _ hr.row, rowR_at _ _ _ (by rw [part_len]; omega), e2]
      have f1 : wr.frozen? ⟨g, i, none⟩ = false := by simp [World.frozen?, hr.row]
      have f2 : wr.frozen? ⟨g, j, none⟩ = false := by simp [World.frozen?, hr.row]
      have ne1 : ¬ i = j := by omega
      have ne2 : ¬ j = i := by omega
      have b1 : (i : Int) < (n : Int) := by omega
      have b2 : (j : Int) < (n : Int) := by omega
      have b3 : (0 : Int) ≤ (i : Int) := by omega
      have b4 : (0 : Int) ≤ (j : Int) := by omega
      have HP := hideIt ((hr.put (i := i) y (by rw [part_len]; omega)).put (i := j) x (by rw [List.length_set, part_len]; omega))
      have HQ := hideIt ((hr.put (i := j) x (by rw [part_len]; omega)).put (i := i) y (by rw [List.length_set, part_len]; omega))
      rw [HA.out] at HP
      rw [HB.out] at HQ
      clear hx hy e1 e2 hr HA HB hl
      go_wp2
      go_region
      all_goals go_wp2
      all_goals go_roundw
      all_goals first | exact ⟨i + 1, j - 1, by omega, by go_num, by congr 1; omega, HP.out.drew⟩ | exact ⟨i + 1, j - 1, by omega, by go_num, by congr 1; omega, HQ.out.drew⟩ | (simp [intOf]; omega)
    · have hid : decide ((i : Int) < (j : Int)) = false := by simp; omega
      have HE := hideIt (part_full l i (by have := HL.out; omega))
      have HQ := hideIt hr
      rw [HE.out] at HQ
      clear hr
      go_wp2
      exact bodyPost_end (results_none Tryz.results73 _ _ _) rfl ⟨rfl, HQ.out⟩
end Go.Proofs.YtknmmlfdlfioiaaGreatDoor.Cb
