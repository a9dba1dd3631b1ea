/- Words as bytes, walked. -/
import Derived.Test.YtllpfpbpdgpnkaaDoorSaPad
namespace Go.Proofs.YtllpfpbpdgpnkaaDoor.Sa
open Go.RowKit
structure OutMem (N : Nat) (h : Nat → BitVec 32) (f : Nat → UInt8) (w0 w : World) : Prop where
  below : Below N w0 w
  words : w.heap[N]? = some (.cells (Sha.wordsA 8 h) 62 (0, 0))
  row : w.heap[N + 1]? = some (.cells (Sha.bytesA 32 f) 103 (0, 0))
theorem OutMem.put {N : Nat} {h : Nat → BitVec 32} {f : Nat → UInt8} {w0 w : World} (hm : OutMem N h f w0 w) (i : Nat) (v : UInt8) : OutMem N h (Sha.up f i v) w0 (w.setCell ⟨N + 1, i, none⟩ (.int .u8 (v.toNat : Int))) :=
  ⟨hm.below.setCell (p := ⟨N + 1, i, none⟩) (by simp) _, by rw [row_other _ (by omega)]; exact hm.words, row_store8 v hm.row⟩
theorem run_str54 (n : Nat) (f : Nat → UInt8) (w : World) (g : Nat) (h : w.heap[g]? = some (.cells (Sha.bytesA n f) 103 (0, 0))) :
    (convert 60 9 (.slice (some ⟨g, 0, none⟩) n n)).run Tryd.prog w = .ok (.string (Sha.bstr n f)) w := by
  rw [← Sha.str_of]
  refine run_convert_bytes_arg (P := Tryd.prog) w 60 5 Tryd.underlying60 Tryd.underlying5 g 0 n n _ (Sha.ints_len n f) (fun i hi => ?_) 9 Tryd.underlying9
  rw [Nat.zero_add, cell_of_row _ _ i _ _ _ h, Sha.bytesA_at _ _ _ hi, Sha.ints_at _ _ _ hi]
theorem zeros32 : Sha.bytesA 32 (fun _ => 0) = (List.replicate 32 (Value.int .u8 0)).toArray := by
  simp [Sha.bytesA, Sha.bytesL, Sha.byte, List.replicate, List.range, List.range.loop]
set_option maxHeartbeats 400000 in
set_option maxRecDepth 100000 in
theorem out_any (h : Nat → BitVec 32) (w : World) :
    Calls Tryd.prog 53 #[.agg (Sha.wordsA 8 h)] w fun e w' => e = .returned (.string (Sha.out h)) ∧ Below w.heap.size w w' := by
  go_enter Tryd.func53, Tryd.ntmps53
  go_wp2
  go_loopw [5] (fun t w' => ∃ i : Nat, i ≤ 32 ∧ t = .int .i64 i ∧ OutMem w.heap.size h (Sha.outF h i) w w') (fun t _ => 32 - (intOf t).toNat)
  case atStart =>
    refine ⟨0, by omega, rfl, ⟨((Below.refl _ _).alloc (Nat.le_refl _) _).alloc (by simp) _, ?_, ?_⟩⟩
    · rw [Below.heap_alloc _ _ _ (by simp)]; exact alloc_at rfl
    · have e : Sha.bytesA 32 (Sha.outF h 0) = (List.replicate 32 (Value.int .u8 0)).toArray := zeros32
      rw [e]; exact alloc_at (by simp)
  case round =>
    obtain ⟨i, hi, rfl, hm⟩ := hrel
    by_cases hlt : i < 32
    · have hid : decide ((i : Int) < 32) = true := by simp; omega
      obtain ⟨x, hx⟩ : ∃ x, x = h (i / 4) := ⟨_, rfl⟩
      have c1 : wr.cell? ⟨w.heap.size, i / 4, none⟩ = some (.int .u32 (x.toNat : Int)) := by rw [cell_of_row _ _ (i / 4) _ _ _ hm.words, Sha.wordsA_at _ _ _ (by omega), hx]
      have c2 := cell_of_row _ _ i _ _ _ hm.row
      rw [Sha.bytesA_at _ _ _ hlt] at c2
      have hf : wr.frozen? ⟨w.heap.size + 1, i, none⟩ = false := by simp [World.frozen?, hm.row]
      have a1 : (i : Int) / 4 < 8 := by omega
      have a2 : (i : Int) < 32 := by omega
      have a3 : (0 : Int) ≤ (i : Int) := by omega
      have a4 : (0 : Int) ≤ (i : Int) / 4 := by omega
      have a5 : ((i : Int) / 4).toNat = i / 4 := by omega
      have xl := x.isLt
      have HE := hideIt (hm.put i (Sha.outByte h i))
      have HX := hideIt hx
      clear hx
      go_wp2
      go_roundw
      case rel =>
        refine ⟨i + 1, by omega, by go_num, ?_⟩
        rw [Sha.out_val, HX.out, ← Sha.outF_next]
        exact HE.out
      case measure => simp [intOf]; omega
    · obtain rfl : i = 32 := by omega
      have hcv := run_str54 32 _ wr _ hm.row
      have e : Sha.bstr 32 (Sha.outF h 32) = Sha.out h := Sha.bstr_congr (fun k hk => by simp [Sha.outF, hk])
      rw [e] at hcv
      go_wp2
      go_ret
      exact ⟨rfl, hm.below⟩
end Go.Proofs.YtllpfpbpdgpnkaaDoor.Sa
