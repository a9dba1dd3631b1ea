/- One block more, walked. -/
import Derived.Test.YtllpfpbpdgpnkaaDoorSaSched
namespace Go.Proofs.YtllpfpbpdgpnkaaDoor.Sa
open Go.RowKit
/-- The package's table of the rounds' words is as it was laid. -/
def KAt (w : World) : Prop := ∀ i, i < 64 → w.cell? ⟨1, i, none⟩ = some (.int .u32 ((Sha.salt i).toNat : Int))
structure MixMem (N G : Nat) (h p v : Nat → BitVec 32) (w0 w : World) : Prop where
  below : Below N w0 w
  lt : N + 1 + 1 < G
  words : w.heap[N]? = some (.cells (Sha.wordsA 8 h) 62 (0, 0))
  res : w.heap[N + 1 + 1]? = some (.cells (Sha.wordsA 8 fun _ => 0#32) 62 (0, 0))
  plan : w.heap[G]? = some (.cells (Sha.wordsA 64 p) 63 (0, 0))
  v : w.heap[G + 1]? = some (.cells (Sha.wordsA 8 v) 62 (0, 0))
theorem MixMem.copied {N G : Nat} {h p v : Nat → BitVec 32} {w0 w w2 : World} (hm : MixMem N G h p v w0 w) (hb : Below (G + 1) w w2)
    (hg : w2.heap[G + 1]? = some (.cells (splice (Sha.wordsL 8 v) 1 (Sha.wordsL 7 v)).toArray 62 (0, 0))) : MixMem N G h p (Sha.shifted v) w0 w2 := by
  have hl := hm.lt
  refine ⟨hm.below.trans (hb.mono (by omega)), hl, ?_, ?_, ?_, ?_⟩
  · rw [hb.block _ (by omega)]; exact hm.words
  · rw [hb.block _ (by omega)]; exact hm.res
  · rw [hb.block _ (by omega)]; exact hm.plan
  · rw [hg, Sha.splice_shift]; rfl
theorem MixMem.put {N G : Nat} {h p v : Nat → BitVec 32} {w0 w : World} (hm : MixMem N G h p v w0 w) (i : Nat) (x : BitVec 32) :
    MixMem N G h p (Sha.up v i x) w0 (w.setCell ⟨G + 1, i, none⟩ (.int .u32 (x.toNat : Int))) := by
  have hl := hm.lt
  refine ⟨hm.below.setCell (p := ⟨G + 1, i, none⟩) (by simp; omega) _, hl, ?_, ?_, ?_, row_store x hm.v⟩
  · rw [row_other _ (by omega)]; exact hm.words
  · rw [row_other _ (by omega)]; exact hm.res
  · rw [row_other _ (by omega)]; exact hm.plan
theorem MixMem.add {N G : Nat} {h p v : Nat → BitVec 32} {w0 w : World} (hm : MixMem N G h p v w0 w) (i : Nat) (x : BitVec 32) :
    MixMem N G (Sha.up h i x) p v w0 (w.setCell ⟨N, i, none⟩ (.int .u32 (x.toNat : Int))).drew := by
  have hl := hm.lt
  refine ⟨(hm.below.setCell (p := ⟨N, i, none⟩) (Nat.le_refl _) _).drew, hl, ?_, ?_, ?_, ?_⟩
  · rw [heap_drew]; exact row_store x hm.words
  · rw [heap_drew, row_other _ (by omega)]; exact hm.res
  · rw [heap_drew, row_other _ (by omega)]; exact hm.plan
  · rw [heap_drew, row_other _ (by omega)]; exact hm.v
abbrev mixStart (h : Nat → BitVec 32) (b : Nat → UInt8) (w : World) : World :=
  ((w.alloc (.cells (Sha.wordsA 8 h) 62)).alloc (.cells (Sha.bytesA 64 b) 83)).alloc (.cells #[.int .u32 0, .int .u32 0, .int .u32 0, .int .u32 0, .int .u32 0, .int .u32 0, .int .u32 0, .int .u32 0] 62)
theorem mix_size (h : Nat → BitVec 32) (b : Nat → UInt8) (w : World) : (mixStart h b w).heap.size = w.heap.size + 1 + 1 + 1 := by simp [mixStart]
theorem mix_heap1 (h : Nat → BitVec 32) (b : Nat → UInt8) (w : World) : (mixStart h b w).heap[w.heap.size + 1]? = some (.cells (Sha.bytesA 64 b) 83 (0, 0)) := by
  have s1 : (w.alloc (.cells (Sha.wordsA 8 h) 62)).heap.size = w.heap.size + 1 := by simp
  rw [mixStart, Below.heap_alloc _ _ _ (by simp), ← s1]
  exact heap_alloc_new _ _
theorem mix_heap0 (h : Nat → BitVec 32) (b : Nat → UInt8) (w : World) : (mixStart h b w).heap[w.heap.size]? = some (.cells (Sha.wordsA 8 h) 62 (0, 0)) := by
  rw [mixStart, Below.heap_alloc _ _ _ (by simp; omega), Below.heap_alloc _ _ _ (by simp)]
  exact heap_alloc_new _ _
theorem alloc_at {w : World} {o : Obj} {n : Nat} (h : w.heap.size = n) : (w.alloc o).heap[n]? = some o := by subst h; exact heap_alloc_new w o
theorem mix_mem {h : Nat → BitVec 32} {b : Nat → UInt8} {w w1 : World} (hb : Below (mixStart h b w).heap.size (mixStart h b w) w1) (z y : Array Value) :
    MixMem w.heap.size w1.heap.size h (Sha.plan b) h w ((((w1.alloc (.cells z 63)).setRow w1.heap.size (Sha.wordsA 64 (Sha.plan b))).alloc (.cells y 62)).setRow (w1.heap.size + 1) (Sha.wordsA 8 h)) := by
  have hs := hb.size
  rw [mix_size] at hb hs
  have h2 : (mixStart h b w).heap[w.heap.size + 1 + 1]? = some (.cells (Sha.wordsA 8 fun _ => 0#32) 62 (0, 0)) := by
    rw [mixStart]; exact alloc_at (by simp)
  have k : ∀ g, g < w.heap.size + 1 + 1 + 1 → ((((w1.alloc (.cells z 63)).setRow w1.heap.size (Sha.wordsA 64 (Sha.plan b))).alloc (.cells y 62)).setRow (w1.heap.size + 1) (Sha.wordsA 8 h)).heap[g]? = (mixStart h b w).heap[g]? := by
    intro g hg
    rw [setRow_other _ _ _ _ (by omega), Below.heap_alloc _ _ _ (by simp; omega), setRow_other _ _ _ _ (by omega), Below.heap_alloc _ _ _ (by omega), hb.block g hg]
  refine ⟨⟨?_, ?_, ?_, ?_, ?_⟩, by omega, ?_, ?_, ?_, ?_⟩
  · exact hb.os
  · exact hb.tape
  · exact hb.output
  · simp; omega
  · intro g hg
    rw [k g (by omega), mixStart, Below.heap_alloc _ _ _ (by simp; omega), Below.heap_alloc _ _ _ (by simp; omega), Below.heap_alloc _ _ _ hg]
  · rw [k _ (by omega), mix_heap0]
  · rw [k _ (by omega), h2]
  · rw [setRow_other _ _ _ _ (by omega), Below.heap_alloc _ _ _ (by simp)]
    exact setRow_heap _ _ _ _ _ _ (alloc_at rfl)
  · exact setRow_heap _ _ _ _ _ _ (alloc_at (by simp))
theorem copy_src (v : Nat → BitVec 32) {w : World} {g : Nat} (hg : w.heap[g]? = some (.cells (Sha.wordsA 8 v) 62 (0, 0))) : ∀ j x, (Sha.wordsL 7 v)[j]? = some x → w.cell? ((⟨g, 0, none⟩ : Addr).add j) = some x := by
  intro j x hx
  have hj : j < 7 := by
    have := (List.getElem?_eq_some_iff.1 hx).1
    simpa [Sha.wordsL] using this
  have e : (Sha.wordsL 7 v)[j]? = some (.int .u32 ((v j).toNat : Int)) := by simp [Sha.wordsL, hj, Sha.word]
  rw [e] at hx
  rw [Addr.add_mid, Nat.zero_add, cell_of_row _ _ j _ _ _ hg, Sha.wordsA_at _ _ _ (by omega), hx]
theorem mix_keeps {w0 w1 : World} {g : Nat} {o ob : Obj} {cs : Array Value} (hb : Below w0.heap.size w0 w1) (hg : w0.heap[g]? = some o) : ((w1.alloc ob).setRow w1.heap.size cs).heap[g]? = some o := by
  have hlt : g < w0.heap.size := (Array.getElem?_eq_some_iff.1 hg).1
  have hs := hb.size
  rw [setRow_other _ _ _ _ (by omega), Below.heap_alloc _ _ _ (by omega), hb.block g hlt, hg]
set_option maxHeartbeats 1000000 in
set_option maxRecDepth 100000 in
theorem mixed_any (h : Nat → BitVec 32) (b : Nat → UInt8) (w : World) (hK : KAt w) :
    Calls Tryd.prog 51 #[.agg (Sha.wordsA 8 h), .agg (Sha.bytesA 64 b)] w fun e w' => e = .returned (.agg (Sha.wordsA 8 (Sha.mix h b))) ∧ Below w.heap.size w w' := by
  have HK := hideIt hK
  clear hK
  go_enter Tryd.func51, Tryd.ntmps51
  have F1 := hideIt (mix_heap1 h b w)
  have F0 := hideIt (mix_heap0 h b w)
  go_wp2_with (first | (refine wpList_load_row rfl 83 _ rfl _ rfl _ _ _ _ F1.out Tryd.underlying83 rfl (info43 b) ?_) | (go_at_call 65; refine (sched_any b _).mono ?_; rintro e w1 ⟨rfl, hb1⟩) | (refine wpList_store_row rfl 63 _ _ rfl _ _ rfl rfl _ _ (heap_alloc_new _ _) (info40 _) (by rw [Sha.wordsA_size]; rfl) (words_all _ _) ?_) | (refine wpList_load_row rfl 62 _ rfl _ rfl _ _ _ _ ((mix_keeps hb1 F0.out)) Tryd.underlying62 rfl (info39 h) ?_) | (refine wpList_store_row rfl 62 _ _ rfl _ _ rfl rfl _ _ (alloc_at (by simp)) (info39 _) (by rw [Sha.wordsA_size]; rfl) (words_all _ _) ?_))
  go_loopw [14] (fun t w' => ∃ k : Nat, k ≤ 64 ∧ t = .int .i64 k ∧ MixMem w.heap.size w1.heap.size h (Sha.plan b) (Sha.rounds (Sha.plan b) h k) w w') (fun t _ => 64 - (intOf t).toNat)
  case atStart => exact ⟨0, by omega, rfl, mix_mem hb1 _ _⟩
  case round =>
    obtain ⟨k, hk, rfl, hm⟩ := hrel
    by_cases hlt : k < 64
    · have hkd : decide ((k : Int) < 64) = true := by simp; omega
      have hlt' : (k : Int) < 64 := by omega
      obtain ⟨v, hv⟩ : ∃ v, v = Sha.rounds (Sha.plan b) h k := ⟨_, rfl⟩
      obtain ⟨p, hp⟩ : ∃ p, p = Sha.plan b k := ⟨_, rfl⟩
      obtain ⟨s, hs⟩ : ∃ s, s = Sha.salt k := ⟨_, rfl⟩
      have HN : Hid (Sha.rounds (Sha.plan b) h (k + 1) = Sha.step s p v) := by rw [hs, hp, hv]; exact rfl
      have hz : 1 < w.heap.size := block_lt_of_cell (HK.out 0 (by omega))
      have cK : wr.cell? ⟨1, k, none⟩ = some (.int .u32 (s.toNat : Int)) := by
        rw [hm.below.cell (p := ⟨1, k, none⟩) hz, HK.out k hlt, hs]
      have cP : wr.cell? ⟨w1.heap.size, k, none⟩ = some (.int .u32 (p.toNat : Int)) := by
        rw [cell_of_row _ _ k _ _ _ hm.plan, Sha.wordsA_at _ _ _ hlt, hp]
      rw [← hv] at hm
      have cv : ∀ j, j < 8 → wr.cell? ⟨w1.heap.size + 1, j, none⟩ = some (.int .u32 ((v j).toNat : Int)) := by
        intro j hj; rw [cell_of_row _ _ j _ _ _ hm.v, Sha.wordsA_at _ _ _ hj]
      have c0 := cv 0 (by omega)
      have c1 := cv 1 (by omega)
      have c2 := cv 2 (by omega)
      have c4 := cv 4 (by omega)
      have c5 := cv 5 (by omega)
      have c6 := cv 6 (by omega)
      have c7 := cv 7 (by omega)
      clear cv hv hp hs
      go_wp2
      go_region_held3 (fun w' => w'.cell? ⟨1, k, none⟩ = some (.int .u32 (s.toNat : Int)) ∧ w'.cell? ⟨w1.heap.size, k, none⟩ = some (.int .u32 (p.toNat : Int)) ∧ w'.cell? ⟨w1.heap.size + 1, 4, none⟩ = some (.int .u32 ((v 4).toNat : Int)) ∧ w'.cell? ⟨w1.heap.size + 1, 5, none⟩ = some (.int .u32 ((v 5).toNat : Int)) ∧ w'.cell? ⟨w1.heap.size + 1, 6, none⟩ = some (.int .u32 ((v 6).toNat : Int)) ∧ w'.cell? ⟨w1.heap.size + 1, 7, none⟩ = some (.int .u32 ((v 7).toNat : Int))) (go_keep)
        (first | (go_at_call 66; refine (bs1_any (v 4) _).mono ?_; rintro e w' ⟨rfl, rfl⟩) | (go_at_call 67; refine (choice_any (v 4) (v 5) (v 6) _).mono ?_; rintro e w' ⟨rfl, rfl⟩))
      simp only [Sha.w_add]
      obtain ⟨d, hd⟩ : ∃ d, v 7 + Sha.bs1 (v 4) + Sha.ch (v 4) (v 5) (v 6) + s + p = d := ⟨_, rfl⟩
      rw [hd]
      have HD := hideIt hd
      clear hd
      go_wp2
      go_region_held3 (fun w' => w'.cell? ⟨w1.heap.size + 1, 0, none⟩ = some (.int .u32 ((v 0).toNat : Int)) ∧ w'.cell? ⟨w1.heap.size + 1, 1, none⟩ = some (.int .u32 ((v 1).toNat : Int)) ∧ w'.cell? ⟨w1.heap.size + 1, 2, none⟩ = some (.int .u32 ((v 2).toNat : Int))) (go_keep)
        (first | (go_at_call 68; refine (bs0_any (v 0) _).mono ?_; rintro e w' ⟨rfl, rfl⟩) | (go_at_call 69; refine (maj_any (v 0) (v 1) (v 2) _).mono ?_; rintro e w' ⟨rfl, rfl⟩))
      simp only [Sha.w_add]
      obtain ⟨u, hu⟩ : ∃ u, d + Sha.bs0 (v 0) + Sha.maj (v 0) (v 1) (v 2) = u := ⟨_, rfl⟩
      rw [hu]
      have HU := hideIt hu
      clear hu
      go_wp2
      have HS := hideIt (copy_src v hm.v)
      go_region_held3 (fun _ => True) (trivial)
        ((refine step_copy_splice (by rfl) (.tmp 52) (.tmp 53) 102 102 (by rfl) 61 Tryd.underlying102 (by kernel_rfl) (some ⟨w1.heap.size + 1, 1, none⟩) (some ⟨w1.heap.size + 1, 0, none⟩) 7 7 7 8 (by rfl) (by rfl) (w1.heap.size + 1) 1 (Sha.wordsL 8 v) 62 (by exact hm.v) (Sha.wordsL 7 v) (by rfl) (fun _ => ⟨rfl, _, rfl, by exact HS.out⟩) (by simp [Sha.wordsL]) (Sha.wordsL_one _ _) (w1.heap.size + 1) wr (by repeat (first | exact Below.refl _ _ | apply Below.drew)) (Nat.le_refl _) ?_; intro w2 hg2 hb2))
      have hm2 := hm.copied hb2 hg2.out
      have d0 : w2.cell? ⟨w1.heap.size + 1, 0, none⟩ = some (.int .u32 ((v 0).toNat : Int)) := by rw [cell_of_row _ _ 0 _ _ _ hm2.v, Sha.wordsA_at _ _ _ (by omega)]; rfl
      have d4 : w2.cell? ⟨w1.heap.size + 1, 4, none⟩ = some (.int .u32 ((v 3).toNat : Int)) := by rw [cell_of_row _ _ 4 _ _ _ hm2.v, Sha.wordsA_at _ _ _ (by omega)]; rfl
      have e0 : w2.frozen? ⟨w1.heap.size + 1, 0, none⟩ = false := by simp [World.frozen?, hm2.v]
      have e4 : w2.frozen? ⟨w1.heap.size + 1, 4, none⟩ = false := by simp [World.frozen?, hm2.v]
      have hend := hideIt ((hm2.put 0 u).put 4 (v 3 + d))
      clear hg2 hb2 hm2 hm c0 c1 c2 c4 c5 c6 c7 cK cP HS
      go_wp2
      go_roundw
      case rel =>
        refine ⟨k + 1, by omega, by go_num, ?_⟩
        have e : Sha.step s p v = Sha.up (Sha.up (Sha.shifted v) 0 u) 4 (v 3 + d) := by rw [Sha.step, Sha.top, Sha.down, HD.out, HU.out]
        rw [Sha.b_add, HN.out, e]
        exact hend.out
      case measure => simp [intOf]; omega
    · obtain rfl : k = 64 := by omega
      obtain ⟨v, hv⟩ : ∃ v, v = Sha.rounds (Sha.plan b) h 64 := ⟨_, rfl⟩
      have HV : Hid (Sha.mix h b = Sha.added h v 8) := by rw [hv]; exact rfl
      rw [← hv] at hm
      clear hv hlt hk F0 F1
      go_wp2
      go_loopw [63] (fun t w' => ∃ i : Nat, i ≤ 8 ∧ t = .int .i64 i ∧ MixMem w.heap.size w1.heap.size (Sha.added h v i) (Sha.plan b) v w w') (fun t _ => 8 - (intOf t).toNat)
      case atStart =>
        refine ⟨0, by omega, rfl, ?_⟩
        have e : Sha.added h v 0 = h := by funext n; simp [Sha.added]
        rw [e]; exact hm
      case round =>
        obtain ⟨i, hi, rfl, hm⟩ := hrel
        by_cases hlt : i < 8
        · have hid : decide ((i : Int) < 8) = true := by simp; omega
          have hi1 : (i : Int) < 8 := by omega
          have hi0 : (0 : Int) ≤ (i : Int) := by omega
          have c1 : wr.cell? ⟨w.heap.size, i, none⟩ = some (.int .u32 ((h i).toNat : Int)) := by rw [cell_of_row _ _ i _ _ _ hm.words, Sha.wordsA_at _ _ _ hlt, Sha.added_at]
          have c2 : wr.cell? ⟨w1.heap.size + 1, i, none⟩ = some (.int .u32 ((v i).toNat : Int)) := by rw [cell_of_row _ _ i _ _ _ hm.v, Sha.wordsA_at _ _ _ hlt]
          have hf : wr.frozen? ⟨w.heap.size, i, none⟩ = false := by simp [World.frozen?, hm.words]
          obtain ⟨x, hx⟩ : ∃ x, h i = x := ⟨_, rfl⟩
          obtain ⟨y, hy⟩ : ∃ y, v i = y := ⟨_, rfl⟩
          have HE := hideIt (hm.add i (h i + v i))
          rw [Sha.added_next] at HE
          rw [hx, hy] at HE
          rw [hx] at c1
          rw [hy] at c2
          clear hx hy hm
          go_wp2
          go_region
          go_wp2
          go_roundw
          case rel =>
            refine ⟨i + 1, by omega, by go_num, ?_⟩
            rw [Sha.b_add]
            exact HE.out
          case measure => simp [intOf]; omega
        · obtain rfl : i = 8 := by omega
          have HP := hideIt hm.words
          have HR := hideIt hm.res
          go_wp2_with (first | (refine wpList_load_row rfl 62 _ rfl _ rfl _ _ _ _ HP.out Tryd.underlying62 rfl (info39 _) ?_) | (refine wpList_store_row rfl 62 _ _ rfl _ _ rfl rfl _ _ HR.out (info39 _) (by rw [Sha.wordsA_size, Sha.wordsA_size]) (words_all _ _) ?_))
          refine bodyPost_ret (v := .agg (Sha.wordsA 8 (Sha.added h v 8))) (results_cell_row Tryd.results51 _ _ (w.heap.size + 1 + 1) 62 _ (0, 0) _ rfl (setRow_heap _ _ _ _ _ _ HR.out) Tryd.underlying62 rfl (info39 _)) rfl ⟨by rw [HV.out], ?_⟩
          exact below_setRow hm.below (by omega) _
end Go.Proofs.YtllpfpbpdgpnkaaDoor.Sa
