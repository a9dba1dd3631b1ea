/- Refs: an id of one letter: the law's own function: walked. -/
import Derived.Test.YtecdjejemohkgaaRfRq
namespace Go.Proofs.Ytecdjejemohkgaa.Rf
open Cb Go.RowKit Go.Shelf
def idS (c : UInt8) : ByteArray := bs (List.replicate 32 c)
theorem idS_size (c : UInt8) : (idS c).size = 32 := by rw [idS, bs_size]; simp
theorem one_byte {w : World} (c : Int) (t : TypeId) (j : Nat) (u : Value) (h : [Value.int .u8 c][j]? = some u) : (w.alloc (.cells #[.int .u8 c] t)).cell? ((⟨w.heap.size, 0, none⟩ : Addr).add j) = some u := by
  have hrow : (w.alloc (.cells #[.int .u8 c] t)).heap[w.heap.size]? = some (.cells #[.int .u8 c] t (0, 0)) := alloc_at rfl
  match j, h with
  | 0, h => exact cellAt hrow (by simpa using h)
  | j + 1, h => simp at h
set_option maxHeartbeats 1600000 in
set_option maxRecDepth 100000 in
theorem id_any (c : UInt8) (w : World) : Calls Try.prog 21 #[.int .u8 (c.toNat : Int)] w fun e w' => e = .returned (.string (idS c)) ∧ Below w.heap.size w w' := by
  obtain ⟨i0, hi0, hz0, hz1, hz2⟩ := info_parts infoU
  have HI : Hid (idS c = bs (List.replicate 32 c)) := rfl
  obtain ⟨x, hx⟩ : ∃ x : Int, (c.toNat : Int) = x := ⟨_, rfl⟩
  rw [hx]
  have HX := hideIt hx
  clear hx
  go_enter Try.func21, Try.ntmps21
  go_wp2
  go_loopw [3, 4] (fun u t wr => ∃ i : Nat, i ≤ 32 ∧ t = .int .i64 i ∧ wr.ownsRow w.heap.size 5 1 u i (u8s (List.replicate i c)) ∧ Below w.heap.size w wr) (fun _ t _ => 32 - (intOf t).toNat)
  case atStart => exact ⟨0, by omega, rfl, ⟨rfl, .inr ⟨w.heap.size, 0, #[], rfl, Nat.le_refl _, alloc_at rfl, by simp, by simp, rfl, rfl⟩⟩, (Below.refl _ _).alloc (Nat.le_refl _) _⟩
  case round =>
    obtain ⟨i, hi, rfl, ho, hb⟩ := hrel
    have HO := hideIt ho
    have HB := hideIt hb
    have hws : w.heap.size ≤ wr.heap.size := hb.size
    have hro := run_own ho
    clear ho hb
    by_cases hlt : i < 32
    · have i1 : (i : Int) < 32 := by omega
      have i2 : decide ((i : Int) < 32) = true := decide_eq_true i1
      clear hro
      go_wp2_with (first | (at_builtin; refine wpList_append_own _ rfl _ _ 56 rfl w.heap.size 5 i0 (.int .u8 0) 1 1 Try.underlying56 hi0 hz0 hz1 hz2 rfl (by decide) _ _ _ rfl (HO.out.alloc _) ⟨wr.heap.size, 0, none⟩ 1 1 [.int .u8 x] rfl rfl (one_byte x _) (fun u hu => by simp at hu; subst hu; rfl) (by unfold maxLen; omega) (by omega) (by simp; omega) ?_; intro v3 w3 hown3 hg3 hnil3))
      go_roundw
      case rel =>
        refine ⟨i + 1, by omega, by go_num, ?_, Below.grown (HB.out.alloc (by omega) _) hg3 (by simp; omega) (own_ge HO.out)⟩
        have e : u8s (List.replicate (i + 1) c) = u8s (List.replicate i c) ++ [.int .u8 x] := by
          rw [List.replicate_succ', u8s, List.map_append, ← HX.out]
          rfl
        rw [e]
        exact hown3
      case measure => simp [intOf]; omega
    · obtain rfl : i = 32 := by omega
      go_wp2
      go_ret
      exact ⟨by rw [HI.out]; rfl, HB.out⟩
end Go.Proofs.Ytecdjejemohkgaa.Rf
