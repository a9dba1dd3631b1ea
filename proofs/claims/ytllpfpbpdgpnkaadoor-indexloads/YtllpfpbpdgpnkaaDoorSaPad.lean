/- What comes behind all bytes, walked. -/
import Derived.Test.YtllpfpbpdgpnkaaDoorSaTabs
namespace Go.Proofs.YtllpfpbpdgpnkaaDoor.Sa
open Go.RowKit
theorem made_bytes (n : Nat) : madeCells (Value.int .u8 0).cells n = Sha.bytesA n (fun _ => 0) := by
  apply Array.ext_getElem?
  intro k
  by_cases h : k < n
  · rw [Sha.bytesA_at _ _ _ h]
    have : k % 1 = 0 := by omega
    simp [madeCells, h, Value.cells, this]
  · rw [Array.getElem?_eq_none (by simp [size_madeCells]; omega), Array.getElem?_eq_none (by rw [Sha.bytesA_size]; omega)]
theorem run_make_bytes (n : Nat) (hn : n ≤ 281474976710656) (w : World) :
    (Instr.makeSlice 60 (.int .u64 (n : Int)) (.int .u64 (n : Int))).run Tryd.prog w = .ok (.slice (some ⟨w.heap.size, 0, none⟩) n n) (w.alloc (.cells (Sha.bytesA n fun _ => 0) 5)) := by
  have hinfo : (Tryd.prog.info? 5).map (fun i => (i.zero, i.size, i.bytes)) = some (some (.int .u8 0), 1, 1) := by kernel_rfl
  obtain ⟨i, hi, he⟩ := Option.map_eq_some_iff.1 hinfo
  simp only [Prod.mk.injEq] at he
  obtain ⟨hz, hs, hb⟩ := he
  have := run_make (P := Tryd.prog) w 60 5 i (.int .u8 0) Tryd.underlying60 hi hz .u64 .u64 (n : Int) (n : Int) (by omega) (Int.le_refl _) (by rw [hb]; omega) (by omega)
  rw [this, hs, Int.toNat_natCast, Nat.mul_one, made_bytes]
theorem row_store8 {w : World} {g i n : Nat} {f : Nat → UInt8} {t : TypeId} (v : UInt8) (h : w.heap[g]? = some (.cells (Sha.bytesA n f) t (0, 0))) :
    (w.setCell ⟨g, i, none⟩ (.int .u8 (v.toNat : Int))).heap[g]? = some (.cells (Sha.bytesA n (Sha.up f i v)) t (0, 0)) := by
  rw [heap_setCell_same w g i _ t _ h, Sha.bytesA_set]
theorem run_str (n : Nat) (f : Nat → UInt8) (w : World) (g : Nat) (h : w.heap[g]? = some (.cells (Sha.bytesA n f) 5 (0, 0))) :
    (convert 60 9 (.slice (some ⟨g, 0, none⟩) n n)).run Tryd.prog w = .ok (.string (Sha.bstr n f)) w := by
  rw [← Sha.str_of]
  refine run_convert_bytes_arg (P := Tryd.prog) w 60 5 Tryd.underlying60 Tryd.underlying5 g 0 n n _ (Sha.ints_len n f) (fun i hi => ?_) 9 Tryd.underlying9
  rw [Nat.zero_add, cell_of_row _ _ i _ _ _ h, Sha.bytesA_at _ _ _ hi, Sha.ints_at _ _ _ hi]
structure PadMem (N n : Nat) (f : Nat → UInt8) (w0 w : World) : Prop where
  below : Below N w0 w
  row : w.heap[N]? = some (.cells (Sha.bytesA n f) 5 (0, 0))
theorem PadMem.put {N n : Nat} {f : Nat → UInt8} {w0 w : World} (h : PadMem N n f w0 w) (i : Nat) (v : UInt8) : PadMem N n (Sha.up f i v) w0 (w.setCell ⟨N, i, none⟩ (.int .u8 (v.toNat : Int))) :=
  ⟨h.below.setCell (p := ⟨N, i, none⟩) (Nat.le_refl _) _, row_store8 v h.row⟩
set_option maxHeartbeats 400000 in
set_option maxRecDepth 100000 in
theorem padding_any (L : Nat) (hL : L < 1152921504606846976) (w : World) :
    Calls Tryd.prog 52 #[.int .u64 (L : Int)] w fun e w' => e = .returned (.string (Sha.pad L)) ∧ Below w.heap.size w w' := by
  obtain ⟨q, hq⟩ : ∃ q, q = Sha.noughts L := ⟨_, rfl⟩
  obtain ⟨n, hn⟩ : ∃ n, n = q + 9 := ⟨_, rfl⟩
  have q1 : (119 - (L : Int) % 64) % 64 = (q : Int) := by rw [hq, Sha.noughts]; omega
  have q2 : (119 - (L : Int)) % 64 = (q : Int) := by rw [hq, Sha.noughts]; omega
  have hql : (q : Int) < 64 := by omega
  have n1 : 1 + (q : Int) + 8 = (n : Int) := by omega
  have n2 : (9 : Int) ≤ (n : Int) := by omega
  have n3 : (0 : Int) < (n : Int) := by omega
  have n4 : n < 100 := by omega
  have hmk := run_make_bytes n (by omega)
  have HE : Hid (Sha.pad L = Sha.bstr n (Sha.padF L n 8)) := by rw [hn, hq]; exact rfl
  have HQ := hideIt hq
  have HN := hideIt hn
  have hb0 : (Sha.bytesA n fun _ => 0)[0]? = some (.int .u8 0) := Sha.bytesA_at _ _ _ (by omega)
  clear hq hn
  go_enter Tryd.func52, Tryd.ntmps52
  go_wp2
  go_loopw [19] (fun t w' => ∃ i : Nat, i ≤ 8 ∧ t = .int .i64 i ∧ PadMem w.heap.size n (Sha.padF L n i) w w') (fun t _ => 8 - (intOf t).toNat)
  case atStart =>
    refine ⟨0, by omega, rfl, ?_⟩
    have e : (Sha.bytesA n fun _ => 0).setIfInBounds 0 (Value.int IntKind.u8 128) = Sha.bytesA n (Sha.padF L n 0) := Sha.bytesA_set n (fun _ => 0) 0 128
    rw [e]
    exact ⟨(Below.refl _ _).alloc (Nat.le_refl _) _, alloc_at rfl⟩
  case round =>
    obtain ⟨i, hi, rfl, hm⟩ := hrel
    by_cases hlt : i < 8
    · obtain ⟨o, ho⟩ : ∃ o, n = o + 1 + i := ⟨n - 1 - i, by omega⟩
      have hid : decide ((i : Int) < 8) = true := by simp; omega
      have c1 := cell_of_row _ _ o _ _ _ hm.row
      rw [Sha.bytesA_at _ _ _ (by omega)] at c1
      have hf : wr.frozen? ⟨w.heap.size, o, none⟩ = false := by simp [World.frozen?, hm.row]
      have a1 : (0 : Int) ≤ (n : Int) - 1 - (i : Int) := by omega
      have a2 : (n : Int) - 1 - (i : Int) < (n : Int) := by omega
      have a3 : ((n : Int) - 1 - (i : Int)).toNat = o := by omega
      have a4 : n - 1 - i = o := by omega
      have a5 : (0 : Int) ≤ (i : Int) := by omega
      have a6 : (i : Int) < 8 := by omega
      have HE := hideIt (hm.put o (Sha.byteAt L i))
      have HO : Hid (Sha.up (Sha.padF L n i) o (Sha.byteAt L i) = Sha.padF L n (i + 1)) := by rw [← a4]; exact rfl
      clear ho
      go_wp2
      go_roundw
      case rel =>
        refine ⟨i + 1, by omega, by go_num, ?_⟩
        rw [Sha.byteAt_val, ← HO.out]
        exact HE.out
      case measure => simp [intOf]; omega
    · obtain rfl : i = 8 := by omega
      have hcv := run_str n _ wr _ hm.row
      go_wp2
      go_ret
      exact ⟨by rw [HE.out]; rfl, hm.below⟩
end Go.Proofs.YtllpfpbpdgpnkaaDoor.Sa
