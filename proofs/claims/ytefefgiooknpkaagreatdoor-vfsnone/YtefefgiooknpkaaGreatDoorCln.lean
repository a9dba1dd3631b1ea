/- A clone of the whole behind one Write, walked. -/
import Derived.Test.YtefefgiooknpkaaGreatDoorTwn
import Derived.Deep.RegionWith
namespace Go.Proofs.YtefefgiooknpkaaGreatDoor
open Go.RowKit Go.Shelf Go.Maps
variable {B0 : Nat}
theorem acts_ne_nil (a : Addr) (n c : Nat) (w : World) : (binOp BinOp.eql 76 (.slice (some a) n c) (.slice none 0 0)).run Tryz.prog w = .ok (.bool false) w := by kernel_rfl
theorem falls_nil (w : World) : (binOp BinOp.eql 55 (.slice none 0 0) (.slice none 0 0)).run Tryz.prog w = .ok (.bool true) w := by kernel_rfl
set_option maxHeartbeats 400000 in
set_option maxRecDepth 100000 in
theorem clone_falls (w : World) : Calls Tryz.prog 57 #[.slice none 0 0] w fun e w' => e = .returned (.slice none 0 0) ∧ w' = w := by
  have hq := falls_nil
  go_enter Tryz.func57, Tryz.ntmps57
  go_wp2
  go_ret
  exact ⟨rfl, rfl⟩
set_option maxHeartbeats 400000 in
set_option maxRecDepth 100000 in
theorem clone_acts {w : World} {g c : Nat} {xs : List Value} (hr : w.ownsRow B0 86 4 (.slice (some ⟨g, 0, none⟩) 1 c) 1 xs) (h1 : ∀ u ∈ xs, u.oneCell' = true) :
    Calls Tryz.prog 64 #[.slice (some ⟨g, 0, none⟩) 1 c] w fun e w' => ∃ v, e = .returned v ∧ w'.ownsRow w.heap.size 86 4 v 1 xs ∧ Kept [] w w' := by
  obtain ⟨i0, hi0, hz0, hz1, hz2⟩ := info_parts infoA
  have hq := acts_ne_nil ⟨g, 0, none⟩ 1 c
  obtain ⟨W, hW⟩ : ∃ W, w.alloc (.cells #[] 86) = W := ⟨_, rfl⟩
  have hkW : Kept [] w W := by rw [← hW]; exact Kept.alloc _ _
  have hrW := hkW.row hr (by simp)
  have hown : W.ownsRow w.heap.size 86 4 (.slice (some ⟨w.heap.size, 0, none⟩) 0 0) 0 [] := ⟨rfl, .inr ⟨w.heap.size, 0, #[], rfl, Nat.le_refl _, by rw [← hW]; exact alloc_at rfl, Nat.le_refl _, by unfold maxLen; omega, rfl, rfl⟩⟩
  have hcs : ∀ j u, xs[j]? = some u → W.cell? ((⟨g, 0, none⟩ : Addr).add j) = some u := hrW.cells rfl
  have hxl : xs.length = 4 := hr.1
  have hszW : w.heap.size ≤ W.heap.size := hkW.size
  have HK := hideIt hkW
  clear hkW hr hrW
  go_enter Tryz.func64, Tryz.ntmps64
  go_wp2_with (first | (at_builtin; refine wpList_append_own _ rfl _ _ 76 rfl w.heap.size 86 i0 _ 4 48 Tryz.underlying76 hi0 hz0 hz1 hz2 rfl (by decide) _ _ _ rfl hown ⟨g, 0, none⟩ 1 c xs rfl hxl hcs h1 (by unfold maxLen; omega) (by omega) hszW ?_; intro v' w2 hown2 hg2 _))
  go_ret
  exact ⟨_, rfl, by simpa using hown2, (HK.out.trans (Kept.of_grown (r := some w.heap.size) hg2)).fresh (by simp)⟩
/-- A clone: of its own, from new blocks on. -/
def ClonePost (w : World) (now sure : ByteArray) (links : Int) (e : Ending) (w' : World) : Prop := ∃ cb c1 c2 c3 done' x2, e = .returned (ptr cb) ∧ w.heap.size ≤ cb ∧ w.heap.size ≤ c3 ∧ w.heap.size ≤ x2 ∧ cb ≠ x2 ∧ St w.heap.size w' cb c1 c2 c3 done' 1 1 10 1 2 0 2 1 (one sa (ptr x2)) (.map []) (oneI 0 (ptr x2)) (acta x2) ∧ FileAt w' x2 (0 : Nat) now sure links ∧ Kept [] w w'
theorem ownsRow_lower {w : World} {a b n : Nat} {e : TypeId} {size : Nat} {v : Value} {xs : List Value} (h : w.ownsRow a e size v n xs) (hb : b ≤ a) : w.ownsRow b e size v n xs := by
  refine ⟨h.1, ?_⟩
  rcases h.2 with h1 | ⟨g, c, cur, h1, h2, h3⟩
  · exact .inl h1
  · exact .inr ⟨g, c, cur, h1, Nat.le_trans hb h2, h3⟩
theorem slice_one {w : World} {base : Nat} {v : Value} {xs : List Value} (h : w.ownsRow base 86 4 v 1 xs) : ∃ g c, v = .slice (some ⟨g, 0, none⟩) 1 c := by
  rcases h.2 with ⟨_, h0⟩ | ⟨g, c, cur, rfl, _⟩
  · cases h0
  · exact ⟨g, c, rfl⟩
set_option maxHeartbeats 1600000 in
set_option maxRecDepth 100000 in
theorem clone_fs {w : World} {fb b1 b2 b3 : Nat} {done : Value} {xb : Nat} {now sure : ByteArray} {links : Int} (h : St B0 w fb b1 b2 b3 done 1 1 10 1 1 0 1 1 (one sa (ptr xb)) (.map []) (oneI 0 (ptr xb)) (acta xb)) (hF : FileAt w xb (0 : Nat) now sure links) :
    Calls Tryz.prog 24 #[ptr fb] w (ClonePost w now sure links) := by
  rcases h.row.2 with ⟨_, h0⟩ | ⟨g, c, cur, rfl, _, hg, hc1, hcm, hcs, htk⟩
  · cases h0
  clear hg hc1 hcm hcs htk
  unfold ptr at h
  show Calls Tryz.prog 24 #[.pointer (some ⟨fb, 0, none⟩)] w _
  have r0 := fs0 h.fs
  have r1 := fs1 h.fs
  have r2 := fs2 h.fs
  have r3 := fs3 h.fs
  have r4 := fs4 h.fs
  have r5 := fs5 h.fs
  have r6 := fs6 h.fs
  have r7 := fs7 h.fs
  have r8 := fs8 h.fs
  have r9 := fs9 h.fs
  have lfb := block_lt h.fs
  obtain ⟨W1, hW1⟩ : ∃ W1, w.alloc (.map #[] 0) = W1 := ⟨_, rfl⟩
  have hm0 : (Instr.makeMap 77 none).run Tryz.prog w = .ok (.map (some w.heap.size)) W1 := by rw [run_makeMap, hW1]
  have hk1 : Kept [] w W1 := by rw [← hW1]; exact Kept.alloc _ _
  have hfm1 : UMap W1 w.heap.size 0 (.map []) := by rw [← hW1]; exact World.ownsMap_made w _ _ _
  obtain ⟨W2, hW2⟩ : ∃ W2, W1.alloc (.cells #[.map (some w.heap.size)] 77) = W2 := ⟨_, rfl⟩
  have hk2 : Kept [] W1 W2 := by rw [← hW2]; exact Kept.alloc _ _
  have hkb2 : W2.heap[W1.heap.size]? = some (.cells #[.map (some w.heap.size)] 77 (0, 0)) := by rw [← hW2]; exact alloc_at rfl
  have q0 : W2.cell? ⟨fb, 0, none⟩ = some (.map (some b1)) := fs0 ((hk1.trans hk2).fs h.fs (by simp))
  have q1 : W2.cell? ⟨fb, 1, none⟩ = some (.map (some b2)) := fs1 ((hk1.trans hk2).fs h.fs (by simp))
  have q2 := fs2 ((hk1.trans hk2).fs h.fs (by simp))
  have q3 := fs3 ((hk1.trans hk2).fs h.fs (by simp))
  have q4 := fs4 ((hk1.trans hk2).fs h.fs (by simp))
  have q5 := fs5 ((hk1.trans hk2).fs h.fs (by simp))
  have q6 := fs6 ((hk1.trans hk2).fs h.fs (by simp))
  have q7 := fs7 ((hk1.trans hk2).fs h.fs (by simp))
  have q8 := fs8 ((hk1.trans hk2).fs h.fs (by simp))
  have q9 := fs9 ((hk1.trans hk2).fs h.fs (by simp))
  clear r0 r1 r2 r3 r4 r5 r6 r7 r8 r9
  go_enter Tryz.func24, Tryz.ntmps24
  go_wp2
  generalize hW : World.alloc W2 _ = W
  have hk3 : Kept [] W2 W := by rw [← hW]; exact Kept.alloc _ _
  have hkW : Kept [] w W := ((hk1.trans hk2).trans hk3).sub (by simp)
  have hcb : FsAt W W2.heap.size (.map (some b1)) (.map (some b2)) (.slice (some ⟨g, 0, none⟩) 1 c) (.map (some b3)) (1 : Nat) (1 : Nat) (10 : Nat) (1 : Nat) false := by rw [← hW]; exact alloc_at rfl
  have hS := h.keep0 hkW
  have hFW := hkW.fs hF (by simp)
  have hkb := hk3.fs hkb2 (by simp)
  have hfm : UMap W w.heap.size 0 (.map []) := hk3.map (hk2.map hfm1 (by simp)) (by simp)
  have lw1 := hfm1.lt
  have lw2 := block_lt hkb2
  have lw3 := block_lt hcb
  have lb1 := h.m1.lt
  have lb2 := h.m2.lt
  have lb3 := h.m3.lt
  have lxb := block_lt hF
  have lg := (h.row.lt g rfl).2
  have d0 := fs0 hS.fs
  have d1 := fs1 hS.fs
  have hd : Kept [] W W.drew := (Kept.refl [] W).drew
  have HT1 : Hid (Calls Tryz.prog 62 #[.map (some b1), .func (.func 61) #[] #[.pointer (some ⟨W1.heap.size, 0, none⟩)]] W.drew fun e w' => e = .returned (.map (some W.heap.size)) ∧ ∃ x2, W.heap.size < x2 ∧ NMap w' W.heap.size 2 (one sa (.pointer (some ⟨x2, 0, none⟩))) ∧ FileAt w' x2 (0 : Nat) now sure links ∧ UMap w' w.heap.size 1 (oneI 0 (.pointer (some ⟨x2, 0, none⟩))) ∧ Kept [w.heap.size] W w') := hideIt (
    (twins_one (w := W.drew) sa (hd.fs hkb (by simp)) (hd.map hfm (by simp)) (hd.map hS.m1 (by simp)) (hd.fs hFW (by simp)) (by decide) (by decide) (by decide) (by omega)).mono fun e w' ⟨a1, x2, a2, a3, a4, a5, a6⟩ => ⟨a1, x2, a2, a3, a4, a5, (hd.trans a6).sub (by simp)⟩)
  have HS := hideIt hS
  have HFW := hideIt hFW
  have HKB := hideIt hkb
  have HCB := hideIt hcb
  have HKW := hideIt hkW
  clear hS hFW hkb hcb hfm hfm1 hkb2 hk1 hk2 hk3 hkW hW h hF q0 q1 q2 q3 q4 q5 q6 q7 q8 q9 hW1 hW2 hm0 hd
  go_region_held3 (fun X => X.cell? ⟨fb, 0, none⟩ = some (.map (some b1)) ∧ X.cell? ⟨fb, 1, none⟩ = some (.map (some b2))) (first | exact ⟨d0, d1⟩ | exact ⟨e0, e1⟩ | exact ⟨f0, f1⟩ | exact ⟨g0, g1⟩ | exact ⟨i0, i1⟩ | assumption) (first | (go_at_call_of 62 (Value.map (some b1)); refine HT1.out.mono ?_; rintro e w4 ⟨rfl, x2, lx2, hm4, hF4, hu4, hk4⟩; have hS4 := HS.out.kept hk4 (by simp; omega) (by simp; omega) (by simp; omega) (by simp; omega) (by intro g' hg'; simp [Value.ownBlock] at hg'; simp; omega); have e0 := fs0 hS4.fs; have e1 := fs1 hS4.fs) | (go_at_call_of 62 (Value.map (some b2)); refine (twins_none _ hS4.m2).mono ?_; rintro e w5 ⟨rfl, hm5, hk5⟩; have f0 := fs0 (hk5.fs hS4.fs (by simp)); have f1 := fs1 (hk5.fs hS4.fs (by simp)); have hcb5 := hk5.fs (hk4.fs HCB.out (by simp; omega)) (by simp); have j0 := fs0 hcb5; have j1 := fs1 hcb5; have j0f := thawAt hcb5 0; have j1f := thawAt hcb5 1; have hfs6 := (Kept.set (w := w5) W2.heap.size 0 (.map (some W.heap.size))).fs (hk5.fs hS4.fs (by simp)) (by simp; omega); have g0 := fs0 hfs6; have g1 := fs1 hfs6; have hfs7 := (Kept.set W2.heap.size 1 (.map (some w4.heap.size))).fs hfs6 (by simp; omega); have i0 := fs0 hfs7; have i1 := fs1 hfs7))
  have hcb6 : FsAt ((w5.setCell ⟨W2.heap.size, 0, none⟩ (.map (some W.heap.size))).setCell ⟨W2.heap.size, 1, none⟩ (.map (some w4.heap.size))) W2.heap.size (.map (some W.heap.size)) (.map (some w4.heap.size)) (.slice (some ⟨g, 0, none⟩) 1 c) (.map (some b3)) (1 : Nat) (1 : Nat) (10 : Nat) (1 : Nat) false := by
    have a1 := heap_setCell_same w5 W2.heap.size 0 _ 79 (.map (some W.heap.size)) hcb5
    unfold FsAt
    rw [heap_setCell_same _ W2.heap.size 1 _ 79 _ a1]
    rfl
  have hk46 : Kept [W2.heap.size] w4 ((w5.setCell ⟨W2.heap.size, 0, none⟩ (.map (some W.heap.size))).setCell ⟨W2.heap.size, 1, none⟩ (.map (some w4.heap.size))) := ((hk5.trans (Kept.set W2.heap.size 0 _)).trans (Kept.set W2.heap.size 1 _)).sub (by simp)
  have hk56 : Kept [W2.heap.size] w5 ((w5.setCell ⟨W2.heap.size, 0, none⟩ (.map (some W.heap.size))).setCell ⟨W2.heap.size, 1, none⟩ (.map (some w4.heap.size))) := ((Kept.set W2.heap.size 0 _).trans (Kept.set W2.heap.size 1 _)).sub (by simp)
  generalize ((w5.setCell ⟨W2.heap.size, 0, none⟩ (.map (some W.heap.size))).setCell ⟨W2.heap.size, 1, none⟩ (.map (some w4.heap.size))) = w6 at hcb6 hk46 hk56 ⊢
  have lw4 : W.heap.size < w4.heap.size := hm4.lt
  have lw5 : w4.heap.size < w5.heap.size := hm5.lt
  have lx4 := block_lt hF4
  have hS6 := hS4.kept hk46 (by simp; omega) (by simp; omega) (by simp; omega) (by simp; omega) (by intro g' hg'; simp [Value.ownBlock] at hg'; simp; omega)
  have hm6 := hk46.map hm4 (by simp; omega)
  have hF6 := hk46.fs hF4 (by simp; omega)
  have hu6 := hk46.map hu4 (by simp; omega)
  have hm62 := hk56.map hm5 (by simp; omega)
  have hkb6 := hk46.fs (hk4.fs HKB.out (by simp; omega)) (by simp; omega)
  have hX6 := hk46.fs (hk4.fs HFW.out (by simp; omega)) (by simp; omega)
  have hkw6 : Kept [] w w6 := ((HKW.out.trans hk4).trans hk46).fresh (by simp; omega)
  have c3 := fs3 hS6.fs
  have HT3 := hideIt (twins_unsure hkb6 hu6 hS6.m3 hX6 (by decide) (by decide))
  unfold twinV at HT3
  have lw6 : w5.heap.size ≤ w6.heap.size := hk56.size
  clear hcb5 j0 j1 j0f j1f hfs6 g0 g1 hfs7 i0 i1 f0 f1 e0 e1 d0 d1
  have HS6 := hideIt hS6
  have HM6 := hideIt hm6
  have HF6 := hideIt hF6
  have HU6 := hideIt hu6
  have HM62 := hideIt hm62
  have HKB6 := hideIt hkb6
  have HX6 := hideIt hX6
  have HKW6 := hideIt hkw6
  have HCB6 := hideIt hcb6
  clear hS6 hm6 hF6 hu6 hm62 hkb6 hX6 hkw6 hcb6 hk46 hk56 hm4 hF4 hu4 hk4 hS4 hm5 hk5
  go_wp2_with (first | (go_at_call 63; refine HT3.out.mono ?_; rintro e w7 ⟨rfl, hm7, hk7⟩; have hcb7 := hk7.fs HCB6.out (by simp); have j3 := fs3 hcb7; have j3f := thawAt hcb7 3; have hfs8 := (Kept.set W2.heap.size 3 (.map (some w6.heap.size))).fs (hk7.fs HS6.out.fs (by simp)) (by simp; omega); have u2 := fs2 hfs8))
  have lw7 : w6.heap.size < w7.heap.size := hm7.lt
  have hcb8 : FsAt (w7.setCell ⟨W2.heap.size, 3, none⟩ (.map (some w6.heap.size))) W2.heap.size (.map (some W.heap.size)) (.map (some w4.heap.size)) (.slice (some ⟨g, 0, none⟩) 1 c) (.map (some w6.heap.size)) (1 : Nat) (1 : Nat) (10 : Nat) (1 : Nat) false := by
    unfold FsAt
    rw [heap_setCell_same _ W2.heap.size 3 _ 79 _ hcb7]
    rfl
  have hk68 : Kept [W2.heap.size] w6 (w7.setCell ⟨W2.heap.size, 3, none⟩ (.map (some w6.heap.size))) := (hk7.trans (Kept.set W2.heap.size 3 _)).sub (by simp)
  have hm8 : UMap (w7.setCell ⟨W2.heap.size, 3, none⟩ (.map (some w6.heap.size))) w6.heap.size 2 (oneI 0 (.pointer (some ⟨x2, 0, none⟩))) := (Kept.set W2.heap.size 3 _).map hm7 (by simp; omega)
  have hz8 : (w7.setCell ⟨W2.heap.size, 3, none⟩ (.map (some w6.heap.size))).heap.size = w7.heap.size := by simp [World.setCell]
  generalize w7.setCell ⟨W2.heap.size, 3, none⟩ (.map (some w6.heap.size)) = w8 at hcb8 hk68 hm8 hfs8 u2 hz8 ⊢
  have hS8 := HS6.out.kept hk68 (by simp; omega) (by simp; omega) (by simp; omega) (by simp; omega) (by intro g' hg'; simp [Value.ownBlock] at hg'; simp; omega)
  have HA := hideIt (clone_acts hS8.row (act_one 0 sa ⟨#[]⟩ _))
  have HCB8 := hideIt hcb8
  have HM8 := hideIt hm8
  have HK8 := hideIt hk68
  have HFS8 := hideIt hfs8
  clear hcb7 j3 j3f hcb8 hk68 hm8 hfs8 hm7 hk7 c3
  go_wp2_with (first | (go_at_call 64; refine HA.out.mono ?_; rintro e w9 ⟨v9, rfl, hr9, hk9⟩; obtain ⟨g2, c2, rfl⟩ := slice_one hr9; have hcb9 := hk9.fs HCB8.out (by simp); have j2 := fs2 hcb9; have j2f := thawAt hcb9 2))
  have hcb10 : FsAt (w9.setCell ⟨W2.heap.size, 2, none⟩ (.slice (some ⟨g2, 0, none⟩) 1 c2)) W2.heap.size (.map (some W.heap.size)) (.map (some w4.heap.size)) (.slice (some ⟨g2, 0, none⟩) 1 c2) (.map (some w6.heap.size)) (1 : Nat) (1 : Nat) (10 : Nat) (1 : Nat) false := by
    unfold FsAt
    rw [heap_setCell_same _ W2.heap.size 2 _ 79 _ hcb9]
    rfl
  have lg2 := hr9.lt g2 rfl
  have hr10 := (Kept.set (w := w9) W2.heap.size 2 (.slice (some ⟨g2, 0, none⟩) 1 c2)).row hr9 (by intro g' hg'; simp [Value.ownBlock] at hg'; simp; omega)
  have hk610 : Kept [W2.heap.size] w6 (w9.setCell ⟨W2.heap.size, 2, none⟩ (.slice (some ⟨g2, 0, none⟩) 1 c2)) := ((HK8.out.trans hk9).trans (Kept.set W2.heap.size 2 _)).sub (by simp)
  have hm10 : UMap (w9.setCell ⟨W2.heap.size, 2, none⟩ (.slice (some ⟨g2, 0, none⟩) 1 c2)) w6.heap.size 2 (oneI 0 (.pointer (some ⟨x2, 0, none⟩))) := (Kept.set W2.heap.size 2 _).map (hk9.map HM8.out (by simp)) (by simp; omega)
  have hz10 : (w9.setCell ⟨W2.heap.size, 2, none⟩ (.slice (some ⟨g2, 0, none⟩) 1 c2)).heap.size = w9.heap.size := by simp [World.setCell]
  generalize w9.setCell ⟨W2.heap.size, 2, none⟩ (.slice (some ⟨g2, 0, none⟩) 1 c2) = w10 at hcb10 hr10 hk610 hm10 hz10 ⊢
  have j2' := fs2 hcb10
  have hu10 := hk610.map HU6.out (by simp; omega)
  have hX10 := hk610.fs HX6.out (by simp; omega)
  have hkb10 := hk610.fs HKB6.out (by simp; omega)
  have hF10 := hk610.fs HF6.out (by simp; omega)
  have hm110 := hk610.map HM6.out (by simp; omega)
  have hm210 := hk610.map HM62.out (by simp; omega)
  have c3' : w10.cell? ⟨g2, 3, none⟩ = some (.pointer (some ⟨xb, 0, none⟩)) := by rw [hr10.cellAt 3 (by omega)]; rfl
  have c3f : w10.frozen? ⟨g2, 3, none⟩ = false := hr10.frozenAt 3
  have hd10 : Kept [] w10 w10.drew := (Kept.refl [] w10).drew
  have HT4 : Hid (Calls Tryz.prog 61 #[.pointer (some ⟨xb, 0, none⟩), .pointer (some ⟨W1.heap.size, 0, none⟩)] w10.drew fun e w' => e = .returned (.pointer (some ⟨x2, 0, none⟩)) ∧ Kept [] w10 w') := hideIt ((twin_old (w := w10.drew) (hd10.fs hkb10 (by simp)) (hd10.map hu10 (by simp)) (hd10.fs hX10 (by simp)) (by decide)).mono fun e w' ⟨a1, a2⟩ => ⟨a1, (hd10.trans a2).sub (by simp)⟩)
  have de := twin_enters
  have HP3 : Hid (∀ X, Kept [] w10 X → X.cell? ⟨g2, 3, none⟩ = some (.pointer (some ⟨xb, 0, none⟩)) ∧ X.frozen? ⟨g2, 3, none⟩ = false ∧ X.cell? ⟨W2.heap.size, 2, none⟩ = some (.slice (some ⟨g2, 0, none⟩) 1 c2)) := hideIt (fun X hX => ⟨by rw [(hX.row hr10 (by simp)).cellAt 3 (by omega)]; rfl, (hX.row hr10 (by simp)).frozenAt 3, fs2 (hX.fs hcb10 (by simp))⟩)
  have HCB10 := hideIt hcb10
  have HR10 := hideIt hr10
  have HK10 := hideIt hk610
  have HM10 := hideIt hm10
  have HF10 := hideIt hF10
  have HM110 := hideIt hm110
  have HM210 := hideIt hm210
  clear hcb9 j2 j2f hcb10 hr10 hk610 hm10 hu10 hX10 hkb10 hF10 hm110 hm210 hr9 hk9 hd10 u2
  refine wp_loop_rounds 2 ?_
  rw [rounds_succ]
  go_wp2
  go_region_with (first | (go_at_call 61; refine HT4.out.mono ?_; rintro e w11 ⟨rfl, hk11⟩; obtain ⟨p3, p3f, p2⟩ := HP3.out w11 hk11))
  all_goals (have hr12 := (hk11.row HR10.out (by simp)).stored 3 (.pointer (some ⟨x2, 0, none⟩)); have hk12 : Kept [g2] w10 (w11.setCell ⟨g2, 3, none⟩ (.pointer (some ⟨x2, 0, none⟩))) := (hk11.trans (Kept.set g2 3 _)).sub (by simp); generalize w11.setCell ⟨g2, 3, none⟩ (.pointer (some ⟨x2, 0, none⟩)) = w12 at hr12 hk12 ⊢; have hcb12 := hk12.fs HCB10.out (by simp; omega); have hf12 := hk12.fs (HK10.out.fs HS6.out.fs (by simp; omega)) (by simp; omega); have v8 := fs8 hf12; have y8 := fs8 hcb12; have y8f := thawAt hcb12 8; clear p3 p3f p2 hk11)
  all_goals go_wp2
  all_goals rw [rounds_succ]
  all_goals go_wp2_with (first | (go_at_call 57; refine (clone_falls _).mono ?_; rintro e wx ⟨rfl, hwx⟩; obtain rfl := hwx.symm))
  all_goals go_ret
  all_goals have hkz : Kept [] w (w12.setCell ⟨W2.heap.size, 8, none⟩ (.slice none 0 0)) := (((HKW6.out.trans HK10.out).trans hk12).trans (Kept.set W2.heap.size 8 _)).fresh (by simp; omega)
  all_goals refine ⟨W2.heap.size, W.heap.size, w4.heap.size, w6.heap.size, .slice (some ⟨g2, 0, none⟩) 1 c2, x2, rfl, by omega, by omega, by omega, by omega, ⟨?_, (Kept.set W2.heap.size 8 _).map (hk12.map HM110.out (by simp; omega)) (by simp; omega), (Kept.set W2.heap.size 8 _).map (hk12.map HM210.out (by simp; omega)) (by simp; omega), (Kept.set W2.heap.size 8 _).map (hk12.map HM10.out (by simp; omega)) (by simp; omega), (Kept.set W2.heap.size 8 _).row (ownsRow_lower hr12.1 (by omega)) (by intro g' hg'; simp [Value.ownBlock] at hg'; simp; omega), by omega, by omega, by omega, hkz.size⟩, (Kept.set W2.heap.size 8 _).fs (hk12.fs HF10.out (by simp; omega)) (by simp; omega), hkz⟩
  all_goals (unfold FsAt; rw [heap_setCell_same w12 W2.heap.size 8 _ 79 _ hcb12]; rfl)
end Go.Proofs.YtefefgiooknpkaaGreatDoor
