/- The power fails, nothing is kept; it comes again: walked behind one sure file and one that is not. -/
import Derived.Test.YtefefgiooknpkaaGreatDoorCrk
namespace Go.Proofs.YtefefgiooknpkaaGreatDoor
open Go.RowKit Go.Shelf Go.Maps
variable {B0 : Nat}
set_option maxHeartbeats 400000 in
set_option maxRecDepth 100000 in
theorem kept_none (w : World) (kb : Nat) (hc : w.cell? ⟨kb, 0, none⟩ = some (.int .u64 0)) :
    Calls Tryz.prog 51 #[.int .i64 0, .pointer (some ⟨kb, 0, none⟩)] w fun e w' => e = .returned (.bool false) ∧ w' = w := by
  go_enter Tryz.func51, Tryz.ntmps51
  go_wp2
  go_ret
  exact ⟨rfl, rfl⟩
theorem kept_enters : ∀ args w, (callFunc 51 args).run Tryz.prog w = .ok (.enter 51 args) w := enters_of Tryz.func51 (by kernel_rfl) rfl
theorem crash_tail {w : World} {fb b3 nb n n3 xb : Nat} {nv dv sv : Value} {came used room steps : Int} {num : Int} {now sure : ByteArray} {links : Int} {D D3 : DataW Value} (h : FsAt w fb nv sv dv (.map (some b3)) came used room steps false) (hm : NMap w nb n D) (h3 : UMap w b3 n3 D3) (hF : FileAt w xb num now sure links) (hfx : fb ≠ xb) (hn3 : nb ≠ b3) :
    ∃ w6, (∀ ty, (Builtin.clear_ #[77] ty #[.map (some b3)]).run Tryz.prog ((w.setCell ⟨fb, 0, none⟩ (.map (some nb))).setCell ⟨fb, 2, none⟩ (.slice none 0 0)) = .ok (.tuple #[]) w6) ∧
      FsAt w6 fb (.map (some nb)) sv (.slice none 0 0) (.map (some b3)) came used room steps false ∧ NMap w6 nb n D ∧ FileAt w6 xb num now sure links ∧ Kept [fb, b3] w w6 := by
  have hk : Kept [fb] w ((w.setCell ⟨fb, 0, none⟩ (.map (some nb))).setCell ⟨fb, 2, none⟩ (.slice none 0 0)) := ((Kept.set fb 0 _).trans (Kept.set fb 2 _)).sub (by simp)
  have hH : FsAt ((w.setCell ⟨fb, 0, none⟩ (.map (some nb))).setCell ⟨fb, 2, none⟩ (.slice none 0 0)) fb (.map (some nb)) sv (.slice none 0 0) (.map (some b3)) came used room steps false := by
    have a1 := heap_setCell_same w fb 0 _ 79 (.map (some nb)) h
    unfold FsAt
    rw [heap_setCell_same _ fb 2 _ 79 _ a1]
    rfl
  have m1 := file_ne_map h hm
  have m3 := file_ne_map h h3
  have hm' := hk.map hm (by simpa using fun e => m1 e.symm)
  have h3' := hk.map h3 (by simpa using fun e => m3 e.symm)
  have hF' := hk.fs hF (by simpa using fun e => hfx e.symm)
  have x3 := file_ne_map hF' h3'
  obtain ⟨w6, r1, r2, r3⟩ := clear_run h3'
  exact ⟨w6, r1, r3.fs hH (by simpa using m3), r3.map hm' (by simpa using hn3), r3.fs hF' (by simpa using x3), (hk.trans r3).sub (by simp)⟩
section
variable {w : World} {fb b1 b2 b3 : Nat} {done : Value} {came used room steps n1 n2 n3 xb num : Nat} {D1 : DataW Value} {now sure : ByteArray} {links : Int} {x : Option Addr} {q : ByteArray}
set_option maxHeartbeats 1600000 in
set_option maxRecDepth 100000 in
theorem crash_none (p : ByteArray) (h : St B0 w fb b1 b2 b3 done came used room steps n1 n2 n3 1 D1 (one p (.pointer (some ⟨xb, 0, none⟩))) (.map []) [.int .i64 0, .string q, .string ⟨#[]⟩, .pointer x]) (hF : FileAt w xb num now sure links) (hfx : fb ≠ xb) (hs : now.size ≤ 1000) :
    Calls Tryz.prog 17 #[.pointer (some ⟨fb, 0, none⟩), .int .u64 0, .int .i64 0] w fun e w' => e = .returned (.tuple #[]) ∧ ∃ nb, FsAt w' fb (.map (some nb)) (.map (some b2)) (.slice none 0 0) (.map (some b3)) came now.size room steps true ∧ NMap w' nb n2 (one p (.pointer (some ⟨xb, 0, none⟩))) ∧ FileAt w' xb num now sure 1 ∧ Kept [fb, xb, b3] w w' := by
  rcases h.row.2 with ⟨_, h0⟩ | ⟨g, c, cur, rfl, _, hg, hc1, hcm, hcs, htk⟩
  · cases h0
  clear hg hc1 hcm hcs htk
  obtain ⟨W, hW⟩ : ∃ W, w.alloc (.cells #[.int .u64 0] 36) = W := ⟨_, rfl⟩
  have hkW : Kept [] w W := by rw [← hW]; exact Kept.alloc _ _
  have hrow : W.heap[w.heap.size]? = some (.cells #[.int .u64 0] 36 (0, 0)) := by rw [← hW]; exact alloc_at rfl
  have hS := h.keep0 hkW
  have hFW := hkW.fs hF (by simp)
  have HD : Hid (Calls Tryz.prog 25 #[.pointer (some ⟨fb, 0, none⟩)] W fun e w' => e = .returned (.bool false) ∧ W = w') := hideIt ((dead_any hS.fs).mono fun _ _ h => ⟨h.1, h.2.symm⟩)
  have e2 := fs2 hS.fs
  have c0 : W.cell? ⟨g, 0, none⟩ = some (.int .i64 0) := by rw [hS.row.cellAt 0 (by omega)]; rfl
  have c1 : W.cell? ⟨g, 1, none⟩ = some (.string q) := by rw [hS.row.cellAt 1 (by omega)]; rfl
  have c2 : W.cell? ⟨g, 2, none⟩ = some (.string ⟨#[]⟩) := by rw [hS.row.cellAt 2 (by omega)]; rfl
  have c3 : W.cell? ⟨g, 3, none⟩ = some (.pointer x) := by rw [hS.row.cellAt 3 (by omega)]; rfl
  have HKE : Hid (∀ X, Kept [] W X → Calls Tryz.prog 51 #[.int .i64 0, .pointer (some ⟨w.heap.size, 0, none⟩)] X fun e w' => e = .returned (.bool false) ∧ X = w') := hideIt (fun X hX => (kept_none X w.heap.size (cellAt (hX.fs hrow (by simp)) rfl)).mono fun _ _ h => ⟨h.1, h.2.symm⟩)
  have de := kept_enters
  have e3 := fs3 hS.fs
  have lfb := block_lt hS.fs
  have HSO : Hid (∀ o1, Calls Tryz.prog 52 #[.func (.func 82) #[] #[.pointer (some ⟨W.heap.size + 1, 0, none⟩)]] ((W.alloc o1).alloc (.cells #[.map (some b3)] 77)) fun e w' => e = .returned (.slice none 0 0) ∧ FsAt w' fb (.map (some b1)) (.map (some b2)) (.slice (some ⟨g, 0, none⟩) 1 c) (.map (some b3)) came used room steps false ∧ NMap w' b2 n2 (one p (.pointer (some ⟨xb, 0, none⟩))) ∧ UMap w' b3 n3 (.map []) ∧ FileAt w' xb num now sure links ∧ Kept [] w w') := hideIt (fun o1 => by
    have hk2 : Kept [] W ((W.alloc o1).alloc (.cells #[.map (some b3)] 77)) := ((Kept.alloc _ _).trans (Kept.alloc _ _)).sub (by simp)
    have hsz : (W.alloc o1).heap.size = W.heap.size + 1 := by simp
    have hrw : ((W.alloc o1).alloc (.cells #[.map (some b3)] 77)).heap[W.heap.size + 1]? = some (.cells #[.map (some b3)] 77 (0, 0)) := alloc_at hsz
    refine (sorted_none _ (W.heap.size + 1) b3 n3 (cellAt hrw rfl) (block_lt hrw) (hk2.map hS.m3 (by simp))).mono fun e w' ⟨he, hk⟩ => ⟨he, ?_⟩
    have hk3 := hk2.trans hk
    exact ⟨hk3.fs hS.fs (by simp), hk3.map hS.m2 (by simp), hk3.map hS.m3 (by simp), hk3.fs hFW (by simp), (hkW.trans hk3).sub (by simp)⟩)
  have hlt := block_lt hrow
  clear h hF hS hFW hkW hrow
  go_enter Tryz.func17, Tryz.ntmps17
  go_wp2_with (first | (go_at_call 25; refine HD.out.mono ?_; rintro e wx ⟨rfl, rfl⟩))
  refine wp_loop_rounds 2 ?_
  rw [rounds_succ]
  go_wp2_with (first | (go_at_call 51; refine (HKE.out _ (Kept.alloc _ _)).mono ?_; rintro e wx ⟨rfl, rfl⟩))
  rw [rounds_succ]
  go_wp2_with (first | (go_at_call 53; refine (keys_any (some b3) _).mono ?_; rintro e wy ⟨rfl, rfl⟩) | (go_at_call 52; refine (HSO.out _).mono ?_; rintro e w4 ⟨rfl, hH4, hm42, hm43, hF4, hk4⟩; have t1 := fs1 hH4))
  refine wp_loop_rounds 1 ?_
  rw [rounds_succ]
  have HM43 := hideIt hm43
  have HF4 := hideIt hF4
  have HH4 := hideIt hH4
  have HM42 := hideIt hm42
  have HK4 := hideIt hk4
  clear hm43 hF4 hH4 hm42 hk4
  go_wp2_with (first | (go_at_call 55; refine (clone_names HM42.out).mono ?_; rintro e w5 ⟨rfl, hm5, hk5⟩; obtain ⟨w6, hcl, hH6, hm6, hF6, hk6⟩ := crash_tail (hk5.fs HH4.out (by simp)) hm5 (hk5.map HM43.out (by simp)) (hk5.fs HF4.out (by simp)) hfx (by have := HM43.out.lt; omega); have s0 := fs0 (hk5.fs HH4.out (by simp)); have s0f := thawAt (hk5.fs HH4.out (by simp)) 0; have s2 := fs2 (hk5.fs HH4.out (by simp)); have s2f := thawAt (hk5.fs HH4.out (by simp)) 2; have s3 := fs3 (hk5.fs HH4.out (by simp)); have HH6 := hideIt hH6; have HM6 := hideIt hm6; have HF6 := hideIt hF6; have HK6 := hideIt ((HK4.out.trans hk5).trans hk6); clear hm5 hk5 hH6 hm6 hF6 hk6) | (go_at_call 56; refine (count_one p HH6.out HM6.out HF6.out hfx hs).mono ?_; rintro e w7 ⟨rfl, hH7, hF7, hk7⟩; have z9 := fs9 hH7; have z9f := thawAt hH7 9))
  refine bodyPost_end (results_none Tryz.results17 _ _ _) rfl ⟨rfl, w4.heap.size, ?_, ?_, ?_, ?_⟩
  · unfold FsAt
    rw [heap_setCell_same w7 fb 9 _ 79 _ hH7]
    rfl
  · have m1 := file_ne_map HH6.out HM6.out
    have m2 := file_ne_map HF6.out HM6.out
    exact (Kept.set fb 9 _).map (hk7.map HM6.out (by simp; exact ⟨fun e => m1 e.symm, fun e => m2 e.symm⟩)) (by simpa using fun e => m1 e.symm)
  · exact (Kept.set fb 9 _).fs hF7 (by simpa using fun e => hfx e.symm)
  · exact ((HK6.out.trans hk7).trans (Kept.set fb 9 _)).sub (by intro a ha; simp at ha ⊢; omega)
end
end Go.Proofs.YtefefgiooknpkaaGreatDoor
