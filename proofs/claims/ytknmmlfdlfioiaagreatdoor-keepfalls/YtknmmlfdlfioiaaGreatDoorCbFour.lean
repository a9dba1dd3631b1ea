/- A check as four bytes, walked: the program's and the document's. -/
import Derived.Test.YtknmmlfdlfioiaaGreatDoorCbLawc
import Derived.Test.YtknmmlfdlfioiaaGreatDoorShelf
namespace Go.Proofs.YtknmmlfdlfioiaaGreatDoor.Cb
open Go.RowKit
def four (x : BitVec 32) : List UInt8 := [UInt8.ofNat (x.toNat / 16777216), UInt8.ofNat (x.toNat / 65536), UInt8.ofNat (x.toNat / 256), UInt8.ofNat x.toNat]
def told (l : List UInt8) : List UInt8 := four (Crc.crc l)
theorem told_len (l : List UInt8) : (told l).length = 4 := rfl
theorem four_cells (w : World) (x : BitVec 32) (A B C D : Value) (hA : A = .int .u8 ((UInt8.ofNat (x.toNat / 16777216)).toNat : Int)) (hB : B = .int .u8 ((UInt8.ofNat (x.toNat / 65536)).toNat : Int)) (hC : C = .int .u8 ((UInt8.ofNat (x.toNat / 256)).toNat : Int)) (hD : D = .int .u8 ((UInt8.ofNat x.toNat).toNat : Int)) :
    (convert 86 9 (.slice (some ⟨w.heap.size, 0, none⟩) 4 4)).run Tryz.prog (w.alloc (.cells #[A, B, C, D] 5)) = .ok (.string (bs (four x))) (w.alloc (.cells #[A, B, C, D] 5)) := by
  subst hA hB hC hD
  exact run_row (four x) _ w.heap.size 5 (alloc_at rfl) 4
structure FtMem (N k : Nat) (x : BitVec 32) (w0 w : World) : Prop where
  below : Below N w0 w
  row : w.heap[N]? = some (.cells (rowA ((four x).take k ++ List.replicate (4 - k) 0)) 118 (0, 0))
theorem FtMem.next {N k : Nat} {x : BitVec 32} {w0 w : World} (h : FtMem N k x w0 w) (hk : k < 4) (v : UInt8) (hv : (four x)[k]'(by simpa [four] using hk) = v) : FtMem N (k + 1) x w0 (w.setCell ⟨N, k, none⟩ (.int .u8 (v.toNat : Int))) := by
  have hl : (four x).length = 4 := rfl
  refine ⟨h.below.setCell (p := ⟨N, k, none⟩) (Nat.le_refl _) _, ?_⟩
  rw [row_put v h.row]
  congr 3
  rw [List.set_append_right _ _ (by rw [List.length_take]; omega), List.length_take, Nat.min_eq_left (by omega), Nat.sub_self, show 4 - k = (4 - (k + 1)) + 1 by omega, List.replicate_succ, List.set_cons_zero, List.take_succ_eq_append_getElem (by omega), hv, List.append_assoc]
  rfl
set_option maxHeartbeats 400000 in
set_option maxRecDepth 100000 in
theorem checktext_any (s : ByteArray) (w : World) (hK : KAt w) (hs : s.size ≤ 1000000000) :
    Calls Tryz.prog 45 #[.string s] w fun e w' => e = .returned (.string (bs (told s.data.toList))) ∧ Below w.heap.size w w' := by
  have HC := hideIt (check_any s w hK hs)
  obtain ⟨x, hx⟩ : ∃ x, Crc.crc s.data.toList = x := ⟨_, rfl⟩
  have HX : Hid (told s.data.toList = four x) := hideIt (by rw [told, hx])
  rw [hx] at HC
  clear hx hs
  have xl := x.isLt
  go_enter Tryz.func45, Tryz.ntmps45
  go_wp2_with (first | (go_at_call 74; refine HC.out.mono ?_; rintro e w2 ⟨rfl, rfl⟩))
  go_loopw [8] (fun t wr => ∃ k : Nat, k ≤ 4 ∧ t = .int .i64 k ∧ FtMem w.heap.size k x w wr) (fun t _ => 4 - (intOf t).toNat)
  case atStart => exact ⟨0, by omega, rfl, (Below.refl _ _).alloc (Nat.le_refl _) _, alloc_at rfl⟩
  case round =>
    obtain ⟨k, hk, rfl, hm⟩ := hrel
    by_cases hlt : k < 4
    · have hid : decide ((k : Int) < 4) = true := by simp; omega
      obtain ⟨v, hv⟩ : ∃ v, (four x)[k]'(by simpa [four] using hlt) = v := ⟨_, rfl⟩
      have HN := hideIt (hm.next hlt v hv)
      obtain ⟨z, c1⟩ : ∃ z : Int, wr.cell? ⟨w.heap.size, k, none⟩ = some (.int .u8 z) := ⟨_, by rw [cell_of_row _ _ k _ _ _ hm.row, rowA_at _ _ (by simp [four]; omega)]⟩
      have hf : wr.frozen? ⟨w.heap.size, k, none⟩ = false := by simp [World.frozen?, hm.row]
      obtain ⟨m, hmm⟩ : ∃ m, m = 3 - k := ⟨_, rfl⟩
      have m1 : (3 : Int) - (k : Int) = (m : Int) := by omega
      have k1 : (k : Int) < 4 := by omega
      have k0 : (0 : Int) ≤ (k : Int) := by omega
      have m2 : (m : Int) ≤ 3 := by omega
      obtain ⟨j, hj⟩ : ∃ j, j = 8 * m := ⟨_, rfl⟩
      have j1 : (8 : Int) * (m : Int) = (j : Int) := by omega
      have j2 : (j : Int) ≤ 24 := by omega
      have vl := v.toNat_lt
      have hval : (x.toNat : Int) / 2 ^ j % 256 = (v.toNat : Int) := by
        have : k = 0 ∨ k = 1 ∨ k = 2 ∨ k = 3 := by omega
        rcases this with rfl | rfl | rfl | rfl <;> subst hj hmm <;> rw [← hv] <;> simp only [four, List.getElem_cons_zero, List.getElem_cons_succ, UInt8.toNat_ofNat'] <;> omega
      have hval2 : IntKind.u8.wrap ((x.toNat : Int) / 2 ^ j) = (v.toNat : Int) := by rw [IntKind.wrap_u8]; exact hval
      clear hj hmm hv hm
      go_wp2
      go_roundw
      case rel => exact ⟨k + 1, by omega, by go_num, HN.out⟩
      case measure => simp [intOf]; omega
    · obtain rfl : k = 4 := by omega
      have hcv : (convert 86 9 (.slice (some ⟨w.heap.size, 0, none⟩) 4 4)).run Tryz.prog wr = .ok (.string (bs (four x))) wr := run_row (four x) wr w.heap.size 118 hm.row 4
      have HW := hideIt hm.below
      clear hm
      go_wp2
      go_ret
      exact ⟨by rw [HX.out]; rfl, HW.out⟩
end Go.Proofs.YtknmmlfdlfioiaaGreatDoor.Cb
