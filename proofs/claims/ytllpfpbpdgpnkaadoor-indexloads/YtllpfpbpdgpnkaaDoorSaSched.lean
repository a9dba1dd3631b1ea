/- The words of a block for each round, walked. -/
import Derived.Test.YtllpfpbpdgpnkaaDoorSaLeaf
import Derived.Deep.RegionHeld3
import Derived.Deep.MidRow
import Derived.Deep.LoopGhost
import Derived.BigRegion
import Derived.Laws.CopyOwn
namespace Go.Proofs.YtllpfpbpdgpnkaaDoor.Sa
open Go.RowKit
theorem hideIt {p : Prop} (h : p) : Hid p := h
structure SchedMem (N : Nat) (b : Nat → UInt8) (f : Nat → BitVec 32) (w0 w : World) : Prop where
  below : Below N w0 w
  blk : w.heap[N]? = some (.cells (Sha.bytesA 64 b) 83 (0, 0))
  res : w.heap[N + 1]? = some (.cells (Sha.wordsA 64 fun _ => 0#32) 63 (0, 0))
  plan : w.heap[N + 1 + 1]? = some (.cells (Sha.wordsA 64 f) 63 (0, 0))
theorem SchedMem.store {N : Nat} {b : Nat → UInt8} {f : Nat → BitVec 32} {w0 w : World} (h : SchedMem N b f w0 w) (i : Nat) (v : BitVec 32) :
    SchedMem N b (Sha.up f i v) w0 (w.setCell ⟨N + 1 + 1, i, none⟩ (.int .u32 (v.toNat : Int))).drew where
  below := (h.below.setCell (p := ⟨N + 1 + 1, i, none⟩) (by simp; omega) _).drew
  blk := by rw [heap_drew, row_other _ (by omega)]; exact h.blk
  res := by rw [heap_drew, row_other _ (by omega)]; exact h.res
  plan := by rw [heap_drew]; exact row_store v h.plan
theorem wrap_sub (i : Nat) (k : Int) (h1 : k ≤ (i : Int)) (h2 : (i : Int) - k < 64) : IntKind.i64.wrap ((i : Int) - k) = (i : Int) - k := by
  simp [IntKind.wrap, IntKind.bits, IntKind.signed]
  split <;> omega
theorem info40 (f : Nat → BitVec 32) : (Tryd.prog.info? 63).map (·.size) = some (Sha.wordsA 64 f).size := by rw [Sha.wordsA_size]; kernel_rfl
theorem info39 (f : Nat → BitVec 32) : (Tryd.prog.info? 62).map (·.size) = some (Sha.wordsA 8 f).size := by rw [Sha.wordsA_size]; kernel_rfl
theorem info43 (f : Nat → UInt8) : (Tryd.prog.info? 83).map (·.size) = some (Sha.bytesA 64 f).size := by rw [Sha.bytesA_size]; kernel_rfl
theorem words_all (n : Nat) (f : Nat → BitVec 32) : (Sha.wordsA n f).all (·.oneCell') = true := Array.all_eq_true_iff_forall_mem.2 (fun v hv => Sha.wordsL_one n f v (by simpa [Sha.wordsA] using hv))
theorem bytes_all (n : Nat) (f : Nat → UInt8) : (Sha.bytesA n f).all (·.oneCell') = true := Array.all_eq_true_iff_forall_mem.2 (fun v hv => Sha.bytesL_one n f v (by simpa [Sha.bytesA] using hv))
theorem cell_apart {w : World} {g i o : Nat} {v u : Value} (h : w.cell? ⟨g, o, none⟩ = some u) (hne : i ≠ o) : (w.setCell ⟨g, i, none⟩ v).drew.cell? ⟨g, o, none⟩ = some u := by
  have e : (w.setCell ⟨g, i, none⟩ v).drew.cell? ⟨g, o, none⟩ = (w.setCell ⟨g, i, none⟩ v).cell? ⟨g, o, none⟩ := rfl
  rw [e, World.cell?_setCell_other _ _ _ _ (by intro e; simp only [Addr.mk.injEq, true_and, and_true] at e; exact hne e), h]
theorem zeros64 : Sha.wordsA 64 (fun _ => 0#32) = (List.replicate 64 (Value.int .u32 0)).toArray := by
  simp [Sha.wordsA, Sha.wordsL, Sha.word, List.replicate, List.range, List.range.loop]
theorem sched_start (b : Nat → UInt8) (w : World) (z : Array Value) (hz : z = Sha.wordsA 64 (fun _ => 0#32)) :
    SchedMem w.heap.size b (Sha.first b 0) w (((w.alloc (.cells (Sha.bytesA 64 b) 83)).alloc (.cells z 63)).alloc (.cells z 63)) := by
  have s1 : (w.alloc (.cells (Sha.bytesA 64 b) 83)).heap.size = w.heap.size + 1 := by simp
  have s2 : ((w.alloc (.cells (Sha.bytesA 64 b) 83)).alloc (.cells z 63)).heap.size = w.heap.size + 1 + 1 := by simp
  subst hz
  refine ⟨(((Below.refl _ _).alloc (Nat.le_refl _) _).alloc (by omega) _).alloc (by omega) _, ?_, ?_, ?_⟩
  · rw [Below.heap_alloc _ _ _ (by omega), Below.heap_alloc _ _ _ (by omega)]; exact heap_alloc_new w _
  · rw [Below.heap_alloc _ _ _ (by omega), ← s1]; exact heap_alloc_new _ _
  · rw [← s2]; exact heap_alloc_new _ _
set_option maxHeartbeats 1000000 in
set_option maxRecDepth 100000 in
theorem sched_any (b : Nat → UInt8) (w : World) :
    Calls Tryd.prog 65 #[.agg (Sha.bytesA 64 b)] w fun e w' => e = .returned (.agg (Sha.wordsA 64 (Sha.plan b))) ∧ Below w.heap.size w w' := by
  go_enter Tryd.func65, Tryd.ntmps65
  go_wp2
  go_loopw [7] (fun t w' => ∃ i : Nat, i ≤ 16 ∧ t = .int .i64 i ∧ SchedMem w.heap.size b (Sha.first b i) w w') (fun t _ => 16 - (intOf t).toNat)
  case atStart =>
    exact ⟨0, by omega, rfl, sched_start b w _ (by rw [zeros64]; rfl)⟩
  case round =>
    obtain ⟨i, hi, rfl, hm⟩ := hrel
    by_cases hlt : i < 16
    · have hid : decide ((i : Int) < 16) = true := by simp; omega
      go_wp2
      go_loopw [10] (fun t w' => ∃ j : Nat, j ≤ 4 ∧ t = .int .i64 j ∧ SchedMem w.heap.size b (Sha.up (Sha.first b i) i (Sha.bePart b i j)) w w') (fun t _ => 4 - (intOf t).toNat)
      case atStart =>
        refine ⟨0, by omega, rfl, ?_⟩
        rw [Sha.first_same]; exact hm
      case round =>
        obtain ⟨j, hj, rfl, hm⟩ := hrel
        by_cases hlj : j < 4
        · have hx := cell_of_row _ _ i _ _ _ hm.plan
          rw [Sha.wordsA_at _ _ _ (by omega)] at hx
          have hy := cell_of_row _ _ (i * 4 + j) _ _ _ hm.blk
          rw [Sha.bytesA_at _ _ _ (by omega)] at hy
          have hf : wr.frozen? ⟨w.heap.size + 1 + 1, i, none⟩ = false := by simp [World.frozen?, hm.plan]
          obtain ⟨x, hxd⟩ : ∃ x, x = Sha.bePart b i j := ⟨_, rfl⟩
          have hxe : Sha.up (Sha.first b i) i (Sha.bePart b i j) i = x := by simp [Sha.up, hxd]
          rw [hxe] at hx
          obtain ⟨y, hyd⟩ : ∃ y, y = b (i * 4 + j) := ⟨_, rfl⟩
          rw [← hyd] at hy
          have HV := hideIt (Sha.be_next b i j x y hxd hyd)
          have hxl := x.isLt
          have hyl := y.toNat_lt
          have hi0 : (0 : Int) ≤ (i : Int) := by omega
          have hj0 : (0 : Int) ≤ (j : Int) := by omega
          have hj1 : (j : Int) < 4 := by omega
          have hi2 : (i : Int) < 64 := by omega
          have hij0 : (0 : Int) ≤ (i : Int) * 4 + (j : Int) := by omega
          have hij : (i : Int) * 4 + (j : Int) < 64 := by omega
          clear hxd hyd hxe
          go_wp2
          go_region
          go_wp2
          go_roundw
          case rel => 
            refine ⟨j + 1, by omega, by go_num, ?_⟩
            rw [HV.out]
            have := hm.store i (Sha.bePart b i (j + 1))
            rw [Sha.up_up] at this
            exact this
          case measure => simp [intOf]; omega
        · obtain rfl : j = 4 := by omega
          rw [Sha.first_next] at hm
          go_wp2
          go_roundw
          case rel => exact ⟨i + 1, by omega, by go_num, hm⟩
          case measure => simp [intOf]; omega
    · obtain rfl : i = 16 := by omega
      go_wp2
      go_loopw [6] (fun t w' => ∃ k i : Nat, k ≤ 48 ∧ i = 16 + k ∧ t = .int .i64 i ∧ SchedMem w.heap.size b (Sha.ext b k) w w') (fun t _ => 64 - (intOf t).toNat)
      case atStart => exact ⟨0, 16, by omega, rfl, rfl, hm⟩
      case round =>
        obtain ⟨k, i, hk, hik, rfl, hm⟩ := hrel
        by_cases hlk : k < 48
        · obtain ⟨o2, ho2⟩ : ∃ o, i = o + 2 := ⟨i - 2, by omega⟩
          obtain ⟨o7, ho7⟩ : ∃ o, i = o + 7 := ⟨i - 7, by omega⟩
          obtain ⟨o15, ho15⟩ : ∃ o, i = o + 15 := ⟨i - 15, by omega⟩
          have c2 := cell_of_row _ _ o2 _ _ _ hm.plan
          have c7 := cell_of_row _ _ o7 _ _ _ hm.plan
          have c15 := cell_of_row _ _ o15 _ _ _ hm.plan
          have c16 := cell_of_row _ _ k _ _ _ hm.plan
          have ci := cell_of_row _ _ i _ _ _ hm.plan
          rw [Sha.wordsA_at _ _ _ (by omega)] at c2 c7 c15 c16 ci
          have hf : wr.frozen? ⟨w.heap.size + 1 + 1, i, none⟩ = false := by simp [World.frozen?, hm.plan]
          obtain ⟨x2, hx2⟩ : ∃ x, x = Sha.ext b k o2 := ⟨_, rfl⟩
          obtain ⟨x7, hx7⟩ : ∃ x, x = Sha.ext b k o7 := ⟨_, rfl⟩
          obtain ⟨x15, hx15⟩ : ∃ x, x = Sha.ext b k o15 := ⟨_, rfl⟩
          obtain ⟨x16, hx16⟩ : ∃ x, x = Sha.ext b k k := ⟨_, rfl⟩
          rw [← hx2] at c2
          rw [← hx7] at c7
          rw [← hx15] at c15
          rw [← hx16] at c16
          have HV : Hid (Sha.up (Sha.ext b k) i (Sha.ss1 x2 + x7 + Sha.ss0 x15 + x16) = Sha.ext b (k + 1)) := by
            rw [hx2, hx7, hx15, hx16, hik, show o2 = 14 + k by omega, show o7 = 9 + k by omega, show o15 = 1 + k by omega]
            exact rfl
          clear hx2 hx7 hx15 hx16
          have HI : Hid (i = 16 + k) := hik
          have h2 : (i : Int) < 64 := by omega
          have b2 : (2 : Int) ≤ (i : Int) := by omega
          have b7 : (7 : Int) ≤ (i : Int) := by omega
          have b15 : (15 : Int) ≤ (i : Int) := by omega
          have b16 : (16 : Int) ≤ (i : Int) := by omega
          have l2 : (i : Int) - 2 < 64 := by omega
          have l7 : (i : Int) - 7 < 64 := by omega
          have l15 : (i : Int) - 15 < 64 := by omega
          have l16 : (i : Int) - 16 < 64 := by omega
          have r2 : IntKind.i64.wrap ((i : Int) - 2) = (i : Int) - 2 := wrap_sub i 2 (by omega) (by omega)
          have r7 : IntKind.i64.wrap ((i : Int) - 7) = (i : Int) - 7 := wrap_sub i 7 (by omega) (by omega)
          have r15 : IntKind.i64.wrap ((i : Int) - 15) = (i : Int) - 15 := wrap_sub i 15 (by omega) (by omega)
          have r16 : IntKind.i64.wrap ((i : Int) - 16) = (i : Int) - 16 := wrap_sub i 16 (by omega) (by omega)
          have e2 : ((i : Int) - 2).toNat = o2 := by omega
          have e7 : ((i : Int) - 7).toNat = o7 := by omega
          have e15 : ((i : Int) - 15).toNat = o15 := by omega
          have e16 : ((i : Int) - 16).toNat = k := by omega
          have n2 : i ≠ o2 := by omega
          have n7 : i ≠ o7 := by omega
          have n15 : i ≠ o15 := by omega
          have n16 : i ≠ k := by omega
          clear hik hlk hk ho2 ho7 ho15
          go_wp2
          go_region_held3 (fun w' => w'.cell? ⟨w.heap.size + 1 + 1, o2, none⟩ = some (.int .u32 (x2.toNat : Int)) ∧ w'.cell? ⟨w.heap.size + 1 + 1, o7, none⟩ = some (.int .u32 (x7.toNat : Int)) ∧ w'.cell? ⟨w.heap.size + 1 + 1, o15, none⟩ = some (.int .u32 (x15.toNat : Int)) ∧ w'.cell? ⟨w.heap.size + 1 + 1, k, none⟩ = some (.int .u32 (x16.toNat : Int))) (first | (go_keep; done) | (exact ⟨cell_apart c2 n2, cell_apart c7 n7, cell_apart c15 n15, cell_apart c16 n16⟩))
            (first | (go_at_call 75; refine (ss1_any x2 _).mono ?_; rintro e w' ⟨rfl, rfl⟩) | (go_at_call 76; refine (ss0_any x15 _).mono ?_; rintro e w' ⟨rfl, rfl⟩))
          go_wp2
          go_roundw
          case rel =>
            repeat apply Exists.intro
            refine ⟨?_, rfl⟩
            refine ⟨k + 1, i + 1, by omega, by have := HI.out; omega, by go_num, ?_⟩
            have hs := hm.store i (Sha.ss1 x2 + x7 + Sha.ss0 x15 + x16)
            rw [HV.out] at hs
            simp only [Sha.b_add]
            exact hs
          case measure => simp [intOf]; omega
        · obtain rfl : k = 48 := by omega
          have hid : decide ((i : Int) < 64) = false := by simp; omega
          have hp := hm.plan
          have hr := hm.res
          have HP := hideIt hp
          have HR := hideIt hr
          clear hp hr
          go_wp2_with (first | (refine wpList_load_row rfl 63 _ rfl _ rfl _ _ _ _ HP.out Tryd.underlying63 rfl (info40 _) ?_) | (refine wpList_store_row rfl 63 _ _ rfl _ _ rfl rfl _ _ HR.out (info40 _) (by rw [Sha.wordsA_size, Sha.wordsA_size]) (words_all _ _) ?_))
          refine bodyPost_ret (v := .agg (Sha.wordsA 64 (Sha.plan b))) (results_cell_row Tryd.results65 _ _ (w.heap.size + 1) 63 _ (0, 0) _ rfl (setRow_heap _ _ _ _ _ _ HR.out) Tryd.underlying63 rfl (info40 _)) rfl ⟨rfl, ?_⟩
          exact below_setRow hm.below (by omega) _
end Go.Proofs.YtllpfpbpdgpnkaaDoor.Sa
