/- What turns the whole, walked: a step; a file's bytes; names. -/
import Derived.Test.YtefefgiooknpkaaGreatDoorFsw
namespace Go.Proofs.YtefefgiooknpkaaGreatDoor
open Go.RowKit Go.Shelf Go.Maps
/-- But for some blocks, the world is as it was. -/
structure Kept (bs : List Nat) (w w' : World) : Prop where
  os : w'.os = w.os
  tape : w'.tape = w.tape
  output : w'.output = w.output
  size : w.heap.size ≤ w'.heap.size
  block : ∀ k, k < w.heap.size → k ∉ bs → w'.heap[k]? = w.heap[k]?
theorem map_eq_nil (w : World) : (binOp BinOp.eql 75 (.map none) (.map none)).run Tryz.prog w = .ok (.bool true) w := by kernel_rfl
theorem map_ne_nil (b : Nat) (w : World) : (binOp BinOp.eql 75 (.map (some b)) (.map none)).run Tryz.prog w = .ok (.bool false) w := by kernel_rfl
theorem Kept.set {w : World} (b i : Nat) (v : Value) : Kept [b] w (w.setCell ⟨b, i, none⟩ v) :=
  ⟨rfl, rfl, rfl, by simp [World.setCell], fun k _ hk => Below.heap_setCell _ _ _ _ (by simpa using hk)⟩
theorem Kept.drew {bs : List Nat} {w w' : World} (h : Kept bs w w') : Kept bs w w'.drew := ⟨h.os, h.tape, h.output, h.size, h.block⟩
set_option maxHeartbeats 800000 in
set_option maxRecDepth 100000 in
theorem step_old {w : World} {fb b : Nat} {sure done unsure : Value} {came used room : Int} (s : Nat) (hs : s < 1000) (h : FsAt w fb (.map (some b)) sure done unsure came used room s false) :
    Calls Tryz.prog 38 #[.pointer (some ⟨fb, 0, none⟩)] w fun e w' => e = .returned (.int .i64 0) ∧ FsAt w' fb (.map (some b)) sure done unsure came used room ((s : Int) + 1) false ∧ Kept [fb] w w' := by
  have c0 := fs0 h
  have c8 := fs8 h
  have c7 := fs7 h
  have f7 := thawAt h 7
  have hme := map_ne_nil b
  have hw1 : IntKind.i64.wrap ((s : Int) + 1) = (s : Int) + 1 := by rw [IntKind.wrap_i64]; omega
  have HR : Hid (FsAt (w.setCell ⟨fb, 7, none⟩ (.int .i64 ((s : Int) + 1))) fb (.map (some b)) sure done unsure came used room ((s : Int) + 1) false) := hideIt (by
    unfold FsAt
    rw [heap_setCell_same w fb 7 _ 79 _ h]
    rfl)
  clear h
  go_enter Tryz.func38, Tryz.ntmps38
  go_wp2
  refine wp_loop_rounds 1 ?_
  rw [rounds_succ]
  go_wp2
  go_region
  go_wp2
  go_ret
  exact ⟨rfl, HR.out, (Kept.set _ _ _).drew⟩
theorem made_three (w : World) : ∃ W1 W2 W3 : World, (∀ t, (Instr.makeMap t none).run Tryz.prog w = .ok (.map (some w.heap.size)) W1) ∧ (∀ t, (Instr.makeMap t none).run Tryz.prog W1 = .ok (.map (some (w.heap.size + 1))) W2) ∧ (∀ t, (Instr.makeMap t none).run Tryz.prog W2 = .ok (.map (some (w.heap.size + 2))) W3) ∧
    Kept [] w W3 ∧ NMap W3 w.heap.size 0 (.map []) ∧ NMap W3 (w.heap.size + 1) 0 (.map []) ∧ UMap W3 (w.heap.size + 2) 0 (.map []) ∧ W3.heap.size = w.heap.size + 3 := by
  refine ⟨w.alloc (.map #[] 0), (w.alloc (.map #[] 0)).alloc (.map #[] 0), ((w.alloc (.map #[] 0)).alloc (.map #[] 0)).alloc (.map #[] 0), fun t => rfl, fun t => ?_, fun t => ?_, ⟨rfl, rfl, rfl, by simp; omega, fun k hk _ => ?_⟩, ?_, ?_, ?_, by simp⟩
  · rw [run_makeMap]; simp
  · rw [run_makeMap]; simp
  · rw [Below.heap_alloc _ _ _ (by simp; omega), Below.heap_alloc _ _ _ (by simp; omega), Below.heap_alloc _ _ _ hk]
  · exact ((World.ownsMap_made w _ _ _).alloc _).alloc _
  · have := (World.ownsMap_made (w.alloc (.map #[] 0)) Tryz.prog 9 anyE).alloc (.map #[] 0)
    simpa using this
  · have := World.ownsMap_made ((w.alloc (.map #[] 0)).alloc (.map #[] 0)) Tryz.prog 3 anyE
    simpa using this
theorem Kept.trans {bs cs : List Nat} {a b c : World} (h : Kept bs a b) (k : Kept cs b c) : Kept (bs ++ cs) a c :=
  ⟨k.os.trans h.os, k.tape.trans h.tape, k.output.trans h.output, Nat.le_trans h.size k.size, fun i hi hn => by
    rw [List.mem_append] at hn
    rw [k.block i (Nat.lt_of_lt_of_le hi h.size) (fun e => hn (.inr e)), h.block i hi (fun e => hn (.inl e))]⟩
theorem Kept.sub {bs cs : List Nat} {a b : World} (h : Kept bs a b) (hs : ∀ x ∈ bs, x ∈ cs) : Kept cs a b := ⟨h.os, h.tape, h.output, h.size, fun k hk hn => h.block k hk (fun e => hn (hs k e))⟩
theorem Kept.of_below {a b : World} (h : Below a.heap.size a b) : Kept [] a b := ⟨h.os, h.tape, h.output, h.size, fun k hk _ => h.block k hk⟩
theorem Kept.refl (bs : List Nat) (a : World) : Kept bs a a := ⟨rfl, rfl, rfl, Nat.le_refl _, fun _ _ _ => rfl⟩
theorem Kept.fs {bs : List Nat} {w w' : World} {b : Nat} {o : Obj} (h : Kept bs w w') (ho : w.heap[b]? = some o) (hb : b ∉ bs) : w'.heap[b]? = some o := by rw [h.block b (block_lt ho) hb, ho]
theorem Kept.map {bs : List Nat} {w w' : World} {k : TypeId} {b n : Nat} {D : DataW Value} (h : Kept bs w w') (ho : w.ownsMap Tryz.prog k anyE b n D) (hb : b ∉ bs) : w'.ownsMap Tryz.prog k anyE b n D := by
  obtain ⟨es, c, h1, h2⟩ := ho
  exact ⟨es, c, h.fs h1 hb, h2⟩
theorem Kept.max {bs : List Nat} {w w' : World} (h : Kept bs w w') (hm : MaxAt w) (hb : 0 ∉ bs) : MaxAt w' := hm.keep (h.block 0 hm.pos hb)
set_option maxHeartbeats 400000 in
set_option maxRecDepth 100000 in
theorem step_new {w : World} {fb : Nat} {done : Value} {came used room : Int} (s : Nat) (hs : s < 1000) (h : FsAt w fb (.map none) (.map none) done (.map none) came used room s false) :
    Calls Tryz.prog 38 #[.pointer (some ⟨fb, 0, none⟩)] w fun e w' => e = .returned (.int .i64 0) ∧ FsAt w' fb (.map (some w.heap.size)) (.map (some (w.heap.size + 1))) done (.map (some (w.heap.size + 2))) came used room ((s : Int) + 1) false ∧
      NMap w' w.heap.size 0 (.map []) ∧ NMap w' (w.heap.size + 1) 0 (.map []) ∧ UMap w' (w.heap.size + 2) 0 (.map []) ∧ Kept [fb] w w' := by
  have c0 := fs0 h
  have c8 := fs8 h
  have c7 := fs7 h
  have f7 := thawAt h 7
  have hme := map_eq_nil
  have hw1 : IntKind.i64.wrap ((s : Int) + 1) = (s : Int) + 1 := by rw [IntKind.wrap_i64]; omega
  have hlt := block_lt h
  obtain ⟨W1, W2, W3, m1, m2, m3, hk, n1, n2, n3, hsz⟩ := made_three (w.setCell ⟨fb, 7, none⟩ (.int .i64 ((s : Int) + 1))).drew
  have e0 : ((w.setCell ⟨fb, 7, none⟩ (.int .i64 ((s : Int) + 1))).drew).heap.size = w.heap.size := by simp [World.setCell, World.drew]
  rw [e0] at m1 m2 m3 n1 n2 n3 hsz
  have h0 : FsAt (w.setCell ⟨fb, 7, none⟩ (.int .i64 ((s : Int) + 1))).drew fb (.map none) (.map none) done (.map none) came used room ((s : Int) + 1) false := by
    show (w.setCell ⟨fb, 7, none⟩ (.int .i64 ((s : Int) + 1))).heap[fb]? = _
    rw [heap_setCell_same w fb 7 _ 79 _ h]
    rfl
  have h3 := hk.fs h0 (by simp)
  have g0 := thawAt h3 0
  have g1 := thawAt h3 1
  have g3 := thawAt h3 3
  have k0 := fs0 h3
  have k1 := fs1 h3
  have k3 := fs3 h3
  have HF : Hid (FsAt (((W3.setCell ⟨fb, 0, none⟩ (.map (some w.heap.size))).setCell ⟨fb, 1, none⟩ (.map (some (w.heap.size + 1)))).setCell ⟨fb, 3, none⟩ (.map (some (w.heap.size + 2)))) fb (.map (some w.heap.size)) (.map (some (w.heap.size + 1))) done (.map (some (w.heap.size + 2))) came used room ((s : Int) + 1) false) := hideIt (by
    unfold FsAt
    have a1 := heap_setCell_same W3 fb 0 _ 79 (.map (some w.heap.size)) h3
    have a2 := heap_setCell_same _ fb 1 _ 79 (.map (some (w.heap.size + 1))) a1
    rw [heap_setCell_same _ fb 3 _ 79 _ a2]
    rfl)
  have HK : Hid (Kept [fb] W3 (((W3.setCell ⟨fb, 0, none⟩ (.map (some w.heap.size))).setCell ⟨fb, 1, none⟩ (.map (some (w.heap.size + 1)))).setCell ⟨fb, 3, none⟩ (.map (some (w.heap.size + 2))))) := hideIt
    ((((Kept.set fb 0 _).trans (Kept.set fb 1 _)).trans (Kept.set fb 3 _)).sub (by simp))
  have HA : Hid (Kept [fb] w W3) := hideIt (((Kept.set fb 7 _).drew.trans hk).sub (by simp))
  have HN := hideIt (And.intro n1 (And.intro n2 n3))
  clear h h0 h3 hk n1 n2 n3 hsz e0
  go_enter Tryz.func38, Tryz.ntmps38
  go_wp2
  refine wp_loop_rounds 1 ?_
  rw [rounds_succ]
  go_wp2
  go_region
  go_wp2
  go_ret
  exact ⟨rfl, HF.out, HK.out.map HN.out.1 (by simp; omega), HK.out.map HN.out.2.1 (by simp; omega), HK.out.map HN.out.2.2 (by simp; omega), (HA.out.trans HK.out).sub (by simp)⟩
end Go.Proofs.YtefefgiooknpkaaGreatDoor
