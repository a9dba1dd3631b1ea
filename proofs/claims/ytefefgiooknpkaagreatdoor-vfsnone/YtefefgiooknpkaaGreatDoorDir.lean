/- What was done in a folder is sure: SyncDir of the root behind one file's coming, walked. -/
import Derived.Test.YtefefgiooknpkaaGreatDoorFsr
import Derived.Lib.SliceRun
namespace Go.Proofs.YtefefgiooknpkaaGreatDoor
open Go.RowKit Go.Shelf Go.Maps
variable {B0 : Nat}
theorem zero4 : (Builtin.zeroCells (Value.agg #[.int .i64 0, .string ⟨#[]⟩, .string ⟨#[]⟩, .pointer none]).cells 1).toList = [.int .i64 0, .string ⟨#[]⟩, .string ⟨#[]⟩, .pointer none] := by kernel_rfl
theorem run_clear_act (w : World) (ty : TypeId) (g c : Nat) (hc : ∀ j, j < 4 → (w.cell? ⟨g, j, none⟩).isSome = true) (hf : ∀ j, j < 4 → w.frozen? ⟨g, j, none⟩ = false) :
    (Builtin.clear_ #[76] ty #[.slice (some ⟨g, 0, none⟩) 1 c]).run Tryz.prog w = .ok (.tuple #[]) (w.setCells g 0 [.int .i64 0, .string ⟨#[]⟩, .string ⟨#[]⟩, .pointer none]) := by
  have hz : ∀ w, (zeroValue 86).run Tryz.prog w = .ok (.agg #[.int .i64 0, .string ⟨#[]⟩, .string ⟨#[]⟩, .pointer none]) w := fun w => by kernel_rfl
  have hst := run_storeCells_cells (P := Tryz.prog) g 0 [.int .i64 0, .string ⟨#[]⟩, .string ⟨#[]⟩, .pointer none] 0 w (by simpa using hc) (by simpa using hf) (act_one 0 _ _ none)
  simp only [Nat.add_zero] at hst
  simp [Builtin.clear_, run_underlying Tryz.underlying76, hz, zero4, hst]
section
variable {w : World} {fb b1 b2 b3 : Nat} {done : Value} {came used room steps n1 n2 n3 k : Nat} {D1 D2 D3 : DataW Value} {xs : List Value}
set_option maxHeartbeats 400000 in
theorem noFolder_root (h : St B0 w fb b1 b2 b3 done came used room steps n1 n2 n3 k D1 D2 D3 xs) : Calls Tryz.prog 44 #[.pointer (some ⟨fb, 0, none⟩), .string ⟨#[]⟩] w fun e w' => e = .returned (.int .i64 0) ∧ w' = w := by
  have HH := hideIt (hindered_none h.fs)
  have HF := hideIt (folder_root (w := w) (m := .map (some b1)) (.inr ⟨b1, n1, D1, rfl, h.m1⟩))
  have c0 := fs0 h.fs
  clear h
  go_enter Tryz.func44, Tryz.ntmps44
  go_wp2_with (first | (go_at_call 35; refine HH.out.mono ?_; rintro e w1 ⟨rfl, rfl⟩) | (go_at_call 36; refine HF.out.mono ?_; rintro e w1 ⟨rfl, rfl⟩))
  go_ret
  exact ⟨rfl, rfl⟩
end
set_option maxHeartbeats 400000 in
set_option maxRecDepth 100000 in
theorem in_root (p : ByteArray) (hp : p.size ≤ 140737488355328) (hd : dirOf p = ⟨#[]⟩) (x : Option Addr) (w : World) :
    Calls Tryz.prog 45 #[.agg #[.int .i64 0, .string p, .string ⟨#[]⟩, .pointer x], .string ⟨#[]⟩] w fun e w' => e = .returned (.bool true) ∧ Kept [] w w' := by
  have HD := hideIt (fun X => folderOf_any p X hp)
  rw [hd] at HD
  clear hd
  go_enter Tryz.func45, Tryz.ntmps45
  go_wp2_with (first | (go_at_call 37; refine (HD.out _).mono ?_; rintro e w1 ⟨rfl, rfl⟩))
  go_ret
  exact ⟨rfl, Kept.alloc _ _⟩
set_option maxHeartbeats 400000 in
set_option maxRecDepth 100000 in
theorem del_root (p : ByteArray) (hp : p.size ≤ 140737488355328) (hd : dirOf p = ⟨#[]⟩) (x : Option Addr) (w : World) (pb : Nat) (hc : w.cell? ⟨pb, 0, none⟩ = some (.string ⟨#[]⟩)) (hlt : pb < w.heap.size) :
    Calls Tryz.prog 48 #[.agg #[.int .i64 0, .string p, .string ⟨#[]⟩, .pointer x], .pointer (some ⟨pb, 0, none⟩)] w fun e w' => e = .returned (.bool true) ∧ Kept [] w w' := by
  have HI := hideIt (in_root p hp hd x)
  clear hd
  go_enter Tryz.func48, Tryz.ntmps48
  go_wp2_with (first | (go_at_call 45; refine (HI.out _).mono ?_; rintro e w1 ⟨rfl, hk1⟩))
  go_ret
  exact ⟨rfl, ((Kept.alloc _ _).trans hk1).sub (by simp)⟩
theorem del_enters : ∀ args w, (callFunc 48 args).run Tryz.prog w = .ok (.enter 48 args) w := enters_of Tryz.func48 (by kernel_rfl) rfl
set_option maxHeartbeats 400000 in
set_option maxRecDepth 100000 in
theorem index_root (p : ByteArray) (hp : p.size ≤ 140737488355328) (hd : dirOf p = ⟨#[]⟩) (x : Option Addr) (w : World) (pb g c : Nat) (hc : w.cell? ⟨pb, 0, none⟩ = some (.string ⟨#[]⟩)) (hlt : pb < w.heap.size)
    (c0 : w.cell? ⟨g, 0, none⟩ = some (.int .i64 0)) (c1 : w.cell? ⟨g, 1, none⟩ = some (.string p)) (c2 : w.cell? ⟨g, 2, none⟩ = some (.string ⟨#[]⟩)) (c3 : w.cell? ⟨g, 3, none⟩ = some (.pointer x)) :
    Calls Tryz.prog 79 #[.slice (some ⟨g, 0, none⟩) 1 c, .func (.func 48) #[] #[.pointer (some ⟨pb, 0, none⟩)]] w fun e w' => e = .returned (.int .i64 0) ∧ Kept [] w w' := by
  have HI := hideIt (del_root p hp hd x w pb hc hlt)
  have de := del_enters
  clear hd
  go_enter Tryz.func79, Tryz.ntmps79
  go_wp2
  refine wp_loop_rounds 1 ?_
  rw [rounds_succ]
  go_wp2_with (first | (go_at_call 48; refine HI.out.mono ?_; rintro e w1 ⟨rfl, hk1⟩))
  go_ret
  exact ⟨rfl, hk1⟩
theorem setCells_row {w : World} {g : Nat} {arr : Array Value} {t : TypeId} (h : w.heap[g]? = some (.cells arr t (0, 0))) (vs : List Value) : ∃ arr', (w.setCells g 0 vs).heap[g]? = some (.cells arr' t (0, 0)) ∧ arr'.size = arr.size ∧ Kept [g] w (w.setCells g 0 vs) := by
  have gen : ∀ (vs : List Value) (o : Nat) (w : World) (arr : Array Value), w.heap[g]? = some (.cells arr t (0, 0)) → ∃ arr', (w.setCells g o vs).heap[g]? = some (.cells arr' t (0, 0)) ∧ arr'.size = arr.size ∧ Kept [g] w (w.setCells g o vs) := by
    intro vs
    induction vs with
    | nil => intro o w arr h; exact ⟨arr, h, rfl, Kept.refl _ _⟩
    | cons v vs ih =>
      intro o w arr h
      obtain ⟨a, h1, h2, h3⟩ := ih (o + 1) (w.setCell ⟨g, o, none⟩ v) _ (heap_setCell_same w g o _ t v h)
      exact ⟨a, h1, by rw [h2]; simp, ((Kept.set g o v).trans h3).sub (by simp)⟩
  exact gen vs 0 w arr h
set_option maxHeartbeats 800000 in
set_option maxRecDepth 100000 in
theorem delete_root (p : ByteArray) (hp : p.size ≤ 140737488355328) (hd : dirOf p = ⟨#[]⟩) (x : Option Addr) (w : World) (pb : Nat) (hc : w.cell? ⟨pb, 0, none⟩ = some (.string ⟨#[]⟩)) (hlt : pb < w.heap.size)
    (done : Value) (hr : w.ownsRow B0 86 4 done 1 [.int .i64 0, .string p, .string ⟨#[]⟩, .pointer x]) :
    Calls Tryz.prog 47 #[done, .func (.func 48) #[] #[.pointer (some ⟨pb, 0, none⟩)]] w fun e w' => ∃ done', e = .returned done' ∧ done'.ownBlock = done.ownBlock ∧ w'.ownsRow B0 86 4 done' 0 [] ∧ Kept done.ownBlock.toList w w' := by
  rcases hr.2 with ⟨_, h0⟩ | ⟨g, c, cur, rfl, hBg, hg, hc1, hcm, hcs, htk⟩
  · cases h0
  have c0 : w.cell? ⟨g, 0, none⟩ = some (.int .i64 0) := by rw [hr.cellAt 0 (by omega)]; rfl
  have c1 : w.cell? ⟨g, 1, none⟩ = some (.string p) := by rw [hr.cellAt 1 (by omega)]; rfl
  have c2 : w.cell? ⟨g, 2, none⟩ = some (.string ⟨#[]⟩) := by rw [hr.cellAt 2 (by omega)]; rfl
  have c3 : w.cell? ⟨g, 3, none⟩ = some (.pointer x) := by rw [hr.cellAt 3 (by omega)]; rfl
  have HI := hideIt (index_root p hp hd x w pb g c hc hlt c0 c1 c2 c3)
  have HC : Hid (∀ X ty, Kept [] w X → (Builtin.clear_ #[76] ty #[.slice (some ⟨g, 0, none⟩) 1 c]).run Tryz.prog X = .ok (.tuple #[]) (X.setCells g 0 [.int .i64 0, .string ⟨#[]⟩, .string ⟨#[]⟩, .pointer none])) := hideIt (fun X ty hX => by
    have hgX := hX.fs hg (by simp)
    refine run_clear_act X ty g c (fun j hj => ?_) (fun j _ => thawAt hgX j)
    have : j < cur.size := by omega
    rw [cellAt hgX (Array.getElem?_eq_getElem this)]
    rfl)
  have HE : Hid (∀ X, Kept [] w X → (X.setCells g 0 [.int .i64 0, .string ⟨#[]⟩, .string ⟨#[]⟩, .pointer none]).ownsRow B0 86 4 (.slice (some ⟨g, 0, none⟩) 0 c) 0 [] ∧ Kept [g] w (X.setCells g 0 [.int .i64 0, .string ⟨#[]⟩, .string ⟨#[]⟩, .pointer none])) := hideIt (fun X hX => by
    obtain ⟨arr', h1, h2, h3⟩ := setCells_row (hX.fs hg (by simp)) [.int .i64 0, .string ⟨#[]⟩, .string ⟨#[]⟩, .pointer none]
    exact ⟨⟨rfl, .inr ⟨g, c, arr', rfl, hBg, h1, Nat.zero_le _, hcm, by rw [h2, hcs], by simp⟩⟩, (hX.trans h3).sub (by simp)⟩)
  have hci : (1 : Int) ≤ (c : Int) := by omega
  have hc0 : (0 : Int) ≤ (c : Int) := by omega
  clear hr hg hcs htk hcm hd
  go_enter Tryz.func47, Tryz.ntmps47
  go_wp2_with (first | (go_at_call 79; refine HI.out.mono ?_; rintro e w1 ⟨rfl, hk1⟩; have hcl := fun ty => HC.out w1 ty hk1))
  refine wp_loop_rounds 1 ?_
  rw [rounds_succ]
  go_wp2
  go_ret
  exact ⟨_, rfl, rfl, (HE.out _ hk1).1, (HE.out _ hk1).2⟩
section
variable {w : World} {fb b1 b2 b3 : Nat} {done : Value} {came used room steps n1 n2 n3 : Nat} {D1 D2 D3 : DataW Value}
set_option maxHeartbeats 800000 in
set_option maxRecDepth 100000 in
theorem syncDir_root (p : ByteArray) (hp : p.size ≤ 140737488355328) (hd : dirOf p = ⟨#[]⟩) (x : Option Addr) (h : St B0 w fb b1 b2 b3 done came used room steps n1 n2 n3 1 D1 D2 D3 [.int .i64 0, .string p, .string ⟨#[]⟩, .pointer x]) (hsteps : steps < 900) (hn2 : n2 < 900) (hh : Maps.has D2 (key p) = false) :
    Calls Tryz.prog 15 #[.pointer (some ⟨fb, 0, none⟩), .string ⟨#[]⟩] w fun e w' => e = .returned (.int .i64 0) ∧ ∃ done', St B0 w' fb b1 b2 b3 done' came used room (steps + 1) n1 (n2 + 1) n3 0 D1 (D2.put (key p) (.held (.pointer x))) D3 [] ∧ Kept (fb :: b2 :: done.ownBlock.toList) w w' := by
  rcases h.row.2 with ⟨_, h0⟩ | ⟨g, c, cur, rfl, _, hg, hc1, hcm, hcs, htk⟩
  · cases h0
  clear hg hc1 hcm hcs htk
  obtain ⟨W, hW⟩ : ∃ W, w.alloc (.cells #[.string ⟨#[]⟩] 9) = W := ⟨_, rfl⟩
  have hkW : Kept [] w W := by rw [← hW]; exact Kept.alloc _ _
  have hrow : W.heap[w.heap.size]? = some (.cells #[.string ⟨#[]⟩] 9 (0, 0)) := by rw [← hW]; exact alloc_at rfl
  have pc : W.cell? ⟨w.heap.size, 0, none⟩ = some (.string ⟨#[]⟩) := cellAt hrow rfl
  have HN := hideIt (noFolder_root (h.keep0 hkW))
  have hbw := block_lt h.fs
  have hb2 := h.m2.lt
  have hgw := (h.row.lt g rfl).2
  have HT := hideIt (((h.keep0 hkW).step hsteps).mono (R' := fun e w' => e = .returned (.int .i64 0) ∧ St B0 w' fb b1 b2 b3 (.slice (some ⟨g, 0, none⟩) 1 c) came used room (steps + 1) n1 n2 n3 1 D1 D2 D3 [.int .i64 0, .string p, .string ⟨#[]⟩, .pointer x] ∧ w'.heap[w.heap.size]? = some (.cells #[.string ⟨#[]⟩] 9 (0, 0)) ∧ Kept [fb] w w') (fun e w' ⟨a1, a2, a3⟩ => ⟨a1, a2, a3.fs hrow (by simp; omega), (hkW.trans a3).sub (by simp)⟩))
  have HI := hideIt (in_root p hp hd x)
  have HDD := hideIt hd
  clear hrow hkW h hd
  go_enter Tryz.func15, Tryz.ntmps15
  go_wp2_with (first | (go_at_call 44; refine HN.out.mono ?_; rintro e wx ⟨rfl, rfl⟩) | (go_at_call 38; refine HT.out.mono ?_; rintro e w1 ⟨rfl, hS1, hp1, hk1⟩; have e2 := fs2 hS1.fs))
  have c0 : w1.cell? ⟨g, 0, none⟩ = some (.int .i64 0) := by rw [hS1.row.cellAt 0 (by omega)]; rfl
  have c1 : w1.cell? ⟨g, 1, none⟩ = some (.string p) := by rw [hS1.row.cellAt 1 (by omega)]; rfl
  have c2 : w1.cell? ⟨g, 2, none⟩ = some (.string ⟨#[]⟩) := by rw [hS1.row.cellAt 2 (by omega)]; rfl
  have c3 : w1.cell? ⟨g, 3, none⟩ = some (.pointer x) := by rw [hS1.row.cellAt 3 (by omega)]; rfl
  have p1 : w1.cell? ⟨w.heap.size, 0, none⟩ = some (.string ⟨#[]⟩) := cellAt hp1 rfl
  have l1 : w.heap.size < w1.heap.size := block_lt hp1
  have HS1 := hideIt hS1
  have HP1 := hideIt hp1
  have HK1 := hideIt hk1
  clear hS1 hp1 hk1
  refine wp_loop_rounds 2 ?_
  rw [rounds_succ]
  go_wp2_with (first | (go_at_call 45; refine (HI.out _).mono ?_; rintro e w3 ⟨rfl, hk3⟩))
  have hrow3 : w3.heap[w1.heap.size]? = some (.cells #[.int .i64 0, .string p, .string ⟨#[]⟩, .pointer x] 86 (0, 0)) := hk3.fs (alloc_at rfl) (by simp)
  have hk13 : Kept [] w1 w3 := ((Kept.alloc _ _).trans hk3).sub (by simp)
  have hS3 := HS1.out.keep0 hk13
  have hp3 := hk13.fs HP1.out (by simp)
  have d1 := fs1 hS3.fs
  have a0 : w3.cell? ⟨w1.heap.size, 0, none⟩ = some (.int .i64 0) := cellAt hrow3 rfl
  have a1 : w3.cell? ⟨w1.heap.size, 1, none⟩ = some (.string p) := cellAt hrow3 rfl
  have a2 : w3.cell? ⟨w1.heap.size, 2, none⟩ = some (.string ⟨#[]⟩) := cellAt hrow3 rfl
  have a3 : w3.cell? ⟨w1.heap.size, 3, none⟩ = some (.pointer x) := cellAt hrow3 rfl
  have l3 : w1.heap.size < w3.heap.size := block_lt hrow3
  have lfb : fb < w1.heap.size := block_lt HS1.out.fs
  have lb2 : b2 < w1.heap.size := HS1.out.m2.lt
  have HD : Hid (∀ X, Same w3 X → Calls Tryz.prog 46 #[.map (some b2), .agg #[.int .i64 0, .string p, .string ⟨#[]⟩, .pointer x]] X fun e w' => e = .returned (.tuple #[]) ∧ St B0 w' fb b1 b2 b3 (.slice (some ⟨g, 0, none⟩) 1 c) came used room (steps + 1) n1 (n2 + 1) n3 1 D1 (D2.put (key p) (.held (.pointer x))) D3 [.int .i64 0, .string p, .string ⟨#[]⟩, .pointer x] ∧
      w'.heap[w.heap.size]? = some (.cells #[.string ⟨#[]⟩] 9 (0, 0)) ∧ w'.heap[w1.heap.size]? = some (.cells #[.int .i64 0, .string p, .string ⟨#[]⟩, .pointer x] 86 (0, 0)) ∧ Kept [b2] w3 w') := hideIt (fun X hX => by
    have hSX := hS3.keep0 hX.kept
    have f2 := file_ne_map hSX.fs hSX.m2
    have r2 := row_ne_map hSX.row hSX.m2
    refine (do_comes hSX.m2 (by omega) p hp HDD.out hh (.pointer x)).mono fun _ w' ⟨h1, h2, h3⟩ => ⟨h1, ⟨h3.fs hSX.fs (by simpa using f2), h3.map hSX.m1 (by simpa using hSX.d12), h2, h3.map hSX.m3 (by simpa using fun e => hSX.d23 e.symm), h3.row hSX.row (fun g' hg' => ?_), hSX.d12, hSX.d13, hSX.d23, Nat.le_trans hSX.ba h3.size⟩, ?_, ?_, (hX.kept.trans h3).sub (by simp)⟩
    · rw [hg'] at r2
      simpa using fun e => r2 (by simp [e])
    · exact h3.fs (hX.kept.fs hp3 (by simp)) (by simp; omega)
    · exact h3.fs (hX.kept.fs hrow3 (by simp)) (by simp; omega))
  have HK3 := hideIt hk13
  clear hrow3 hk13 hS3 hp3 hk3
  go_region_held3 (fun X => X.cell? ⟨fb, 1, none⟩ = some (.map (some b2)) ∧ X.cell? ⟨w1.heap.size, 0, none⟩ = some (.int .i64 0) ∧ X.cell? ⟨w1.heap.size, 1, none⟩ = some (.string p) ∧ X.cell? ⟨w1.heap.size, 2, none⟩ = some (.string ⟨#[]⟩) ∧ X.cell? ⟨w1.heap.size, 3, none⟩ = some (.pointer x)) (first | exact ⟨d1, a0, a1, a2, a3⟩ | exact ⟨fs1 hS4.fs, cellAt hr4 rfl, cellAt hr4 rfl, cellAt hr4 rfl, cellAt hr4 rfl⟩ | assumption) (first | (go_at_call 46; refine (HD.out _ (by exact ⟨rfl, rfl, rfl, rfl⟩)).mono ?_; rintro e w4 ⟨rfl, hS4, hp4, hr4, hk4⟩))
  have e4 := fs2 hS4.fs
  have HX := hideIt (delete_root p hp HDD.out x w4 w.heap.size (cellAt hp4 rfl) (block_lt hp4) _ hS4.row)
  have HS4 := hideIt hS4
  have HK4 := hideIt hk4
  have t2 := fs2 hS4.fs
  have HE5 : Hid (∀ X, Kept [g] w4 X → FsAt X fb (.map (some b1)) (.map (some b2)) (.slice (some ⟨g, 0, none⟩) 1 c) (.map (some b3)) came used room ((steps + 1 : Nat) : Int) false ∧ NMap X b1 n1 D1 ∧ NMap X b2 (n2 + 1) (D2.put (key p) (.held (.pointer x))) ∧ UMap X b3 n3 D3) := hideIt (fun X hX => by
    have q0 := row_ne_cells hS4.row hS4.fs (by decide)
    have q1 := row_ne_map hS4.row hS4.m1
    have q2 := row_ne_map hS4.row hS4.m2
    have q3 := row_ne_map hS4.row hS4.m3
    exact ⟨hX.fs hS4.fs q0, hX.map hS4.m1 q1, hX.map hS4.m2 q2, hX.map hS4.m3 q3⟩)
  clear hS4 hp4 hr4 hk4
  go_wp2
  rw [rounds_succ]
  go_wp2_with (first | (go_at_call 47; refine HX.out.mono ?_; rintro e w5 ⟨done', rfl, hd5, hr5, hk5⟩; obtain ⟨va, vm, vc, rfl⟩ := slice_of hr5; obtain ⟨hf5, m51, m52, m53⟩ := HE5.out w5 hk5; have s2 := fs2 hf5; have s3 := thawAt hf5 2))
  go_ret
  refine ⟨rfl, .slice va vm vc, ⟨?_, (Kept.set fb 2 _).map m51 ?_, (Kept.set fb 2 _).map m52 ?_, (Kept.set fb 2 _).map m53 ?_, (Kept.set fb 2 _).row hr5 ?_, HS4.out.d12, HS4.out.d13, HS4.out.d23, ?_⟩, ?_⟩
  · unfold FsAt
    rw [heap_setCell_same w5 fb 2 _ 79 _ hf5]
    rfl
  · simpa using fun e => file_ne_map hf5 m51 e.symm
  · simpa using fun e => file_ne_map hf5 m52 e.symm
  · simpa using fun e => file_ne_map hf5 m53 e.symm
  · intro g' hg'
    have := row_ne hr5 hf5 (fun cur => by simp) g' hg'
    simpa using this
  · have := HS4.out.ba
    have := hk5.size
    simp [World.setCell]
    omega
  · have hk5' : Kept [g] w4 w5 := hk5
    exact (((((HK1.out).trans HK3.out).trans HK4.out).trans hk5').trans (Kept.set fb 2 _)).sub (by intro a ha; simp [Value.ownBlock] at ha ⊢; omega)
end
end Go.Proofs.YtefefgiooknpkaaGreatDoor
