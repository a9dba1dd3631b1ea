/- Small facts of checks. -/
import Derived.Test.YtknmmlfdlfioiaaGreatDoorCbRefc
import Derived.Deep.RegionHeld3
namespace Go.Proofs.YtknmmlfdlfioiaaGreatDoor.Cb
open Go.RowKit
theorem K_pos {w : World} (hK : KAt w) : 0 < w.heap.size := block_lt_of_cell (hK 0 (by omega))
theorem K_below {w w' : World} (h : Below w.heap.size w w') (hK : KAt w) : KAt w' := fun i hi => by rw [h.cell (p := ⟨0, i, none⟩) (K_pos hK)]; exact hK i hi
theorem wrap_small' (x : Int) (h0 : 0 ≤ x) (h1 : x < 9223372036854775808) : IntKind.i64.wrap x = x := by rw [IntKind.wrap_i64]; omega
theorem flipC {P : Program} {f : Nat} {a : Array Value} {w : World} {v : Value} (h : Calls P f a w fun e w' => e = .returned v ∧ w' = w) : Calls P f a w fun e w' => e = .returned v ∧ w = w' := h.mono fun _ _ h => ⟨h.1, h.2.symm⟩
theorem data_first (s : ByteArray) (k : Nat) : (s.extract 0 k).data.toList = s.data.toList.take k := by
  rw [ByteArray.data_extract]; simp
theorem data_rest (s : ByteArray) (k : Nat) : (s.extract k s.size).data.toList = s.data.toList.drop k := by
  rw [ByteArray.data_extract, Array.toList_extract, List.extract_eq_take_drop, List.take_of_length_le (by rw [List.length_drop, str_len]; omega)]
theorem split_at (s : ByteArray) (k : Nat) (h : k < s.size) : s.data.toList = s.data.toList.take k ++ s[k] :: s.data.toList.drop (k + 1) := by
  have e : s[k] = s.data.toList[k]'(by rw [str_len]; exact h) := rfl
  rw [e, ← List.drop_eq_getElem_cons, List.take_append_drop]
theorem run_oneD (u : UInt8) (w : World) : (convert 86 9 (.slice (some ⟨w.heap.size, 0, none⟩) 1 1)).run Tryz.prog (w.alloc (.cells #[.int .u8 (u.toNat : Int)] 5)).drew = .ok (.string (bs [u])) (w.alloc (.cells #[.int .u8 (u.toNat : Int)] 5)).drew :=
  run_row [u] (w.alloc (.cells #[.int .u8 (u.toNat : Int)] 5)).drew w.heap.size 5 (by rw [heap_drew]; exact alloc_at rfl) 1
theorem xor_byte (a b : UInt8) : bits .xor .u8 (a.toNat : Int) (b.toNat : Int) = ((a ^^^ b).toNat : Int) := by
  rw [u8_xor_nat _ _ a.toNat_lt b.toNat_lt, UInt8.toNat_xor]
theorem xor_other (a b : UInt8) (h : b ≠ 0) : a ^^^ b ≠ a := by
  intro e
  apply h
  have := congrArg (fun x => a ^^^ x) e
  simpa [← UInt8.xor_assoc] using this
end Go.Proofs.YtknmmlfdlfioiaaGreatDoor.Cb
