/- A name comes, walked. -/
import Derived.Test.YtefefgiooknpkaaGreatDoorFsy
import Derived.Test.YtefefgiooknpkaaGreatDoorOwn
namespace Go.Proofs.YtefefgiooknpkaaGreatDoor
open Go.RowKit Go.Shelf Go.Maps
variable {B0 : Nat}
/-- Something that is done to names, as it is handed on. -/
def actv (kind : Int) (p to : ByteArray) (file : Value) : Array Value := #[.int .i64 kind, .string p, .string to, file]
theorem Kept.alloc (w : World) (o : Obj) : Kept [] w (w.alloc o) := ⟨rfl, rfl, rfl, by simp, fun k hk _ => Below.heap_alloc _ _ _ hk⟩
set_option maxHeartbeats 400000 in
set_option maxRecDepth 100000 in
theorem do_comes {w : World} {b n : Nat} {D : DataW Value} (hm : NMap w b n D) (hn : n < 1000) (p : ByteArray) (hp : p.size ≤ 140737488355328) (hd : dirOf p = ⟨#[]⟩) (hh : Maps.has D (key p) = false) (file : Value) :
    Calls Tryz.prog 46 #[.map (some b), .agg #[.int .i64 0, .string p, .string ⟨#[]⟩, file]] w fun e w' => e = .returned (.tuple #[]) ∧ NMap w' b (n + 1) (D.put (key p) (.held file)) ∧ Kept [b] w w' := by
  have hp' : p.size ≤ maxLen := by unfold maxLen; omega
  obtain ⟨W, hW⟩ : ∃ W, w.alloc (.cells #[.int .i64 0, .string p, .string ⟨#[]⟩, file] 86) = W := ⟨_, rfl⟩
  have hk : Kept [] w W := by rw [← hW]; exact Kept.alloc _ _
  have hm' := hk.map hm (by simp)
  have hrow : W.heap[w.heap.size]? = some (.cells #[.int .i64 0, .string p, .string ⟨#[]⟩, file] 86 (0, 0)) := by rw [← hW]; exact alloc_at rfl
  have c0 : W.cell? ⟨w.heap.size, 0, none⟩ = some (.int .i64 0) := cellAt hrow rfl
  have c1 : W.cell? ⟨w.heap.size, 1, none⟩ = some (.string p) := cellAt hrow rfl
  have c3 : W.cell? ⟨w.heap.size, 3, none⟩ = some file := cellAt hrow rfl
  have hl := look_ok hm' p hp'
  rw [hh] at hl
  generalize valAt D (key p) = v at hl
  have HD := hideIt (fun W => folderOf_any p W hp)
  rw [hd] at HD
  have HF := hideIt (folder_root (w := W) (m := .map (some b)) (.inr ⟨b, n, D, rfl, hm'⟩))
  obtain ⟨w1, hrun, hm1, ht1⟩ := hm'.store (t := 75) kS Tryz.underlying75 (by unfold maxLen; omega) (keyS p hp') (val := file) rfl
  have HM := hideIt hm1
  have HK : Hid (Kept [b] w w1) := hideIt ((hk.trans (Kept.of_turned ht1)).sub (by simp))
  clear hk hm' hrow hm hm1 ht1 hd hh
  go_enter Tryz.func46, Tryz.ntmps46
  go_wp2_with (first | (go_at_call 37; refine (HD.out _).mono ?_; rintro e w2 ⟨rfl, rfl⟩) | (go_at_call 36; refine HF.out.mono ?_; rintro e w2 ⟨rfl, rfl⟩))
  exact bodyPost_end (results_none Tryz.results46 _ _ _) rfl ⟨rfl, HM.out, HK.out⟩
/-- A world that parts from another by draws alone. -/
structure Same (W X : World) : Prop where
  os : X.os = W.os
  tape : X.tape = W.tape
  output : X.output = W.output
  heap : X.heap = W.heap
theorem Same.kept {W X : World} (h : Same W X) : Kept [] W X := ⟨h.os, h.tape, h.output, by rw [h.heap]; exact Nat.le_refl _, fun k _ _ => by rw [h.heap]⟩
theorem infoA : (Tryz.prog.info? 86).map (fun i => (i.zero, i.size, i.bytes)) = some (some (.agg #[.int .i64 0, .string ⟨#[]⟩, .string ⟨#[]⟩, .pointer none]), 4, 48) := by kernel_rfl
theorem Kept.of_grown {w w' : World} {r : Option Nat} (h : w.grownBy w' r) : Kept r.toList w w' :=
  ⟨h.os, h.tape, h.output, h.size, fun k hk hn => h.block k hk (fun e => hn (by rw [← e]; simp))⟩
theorem Kept.row {bs : List Nat} {w w' : World} {base n : Nat} {e : TypeId} {size : Nat} {v : Value} {xs : List Value} (h : Kept bs w w') (ho : w.ownsRow base e size v n xs) (hb : ∀ g, v.ownBlock = some g → g ∉ bs) : w'.ownsRow base e size v n xs := by
  refine ⟨ho.1, ?_⟩
  rcases ho.2 with h1 | ⟨g, cap, cur, rfl, h1, h2, h3⟩
  · exact .inl h1
  · exact .inr ⟨g, cap, cur, rfl, h1, h.fs h2 (hb g rfl), h3⟩
/-- A row of things done is no other block. -/
theorem row_ne {w : World} {base n : Nat} {v : Value} {xs : List Value} {b : Nat} {o : Obj} (ho : w.ownsRow base 86 4 v n xs) (h : w.heap[b]? = some o) (hne : ∀ cur, o ≠ .cells cur 86 (0, 0)) : ∀ g, v.ownBlock = some g → g ≠ b := by
  intro g hg e
  subst e
  rcases ho.2 with ⟨rfl, _⟩ | ⟨g', cap, cur, rfl, h1, h2, h3⟩
  · cases hg
  · simp [Value.ownBlock] at hg
    subst hg
    rw [h] at h2
    exact hne cur (Option.some.inj h2)
theorem slice_of {w : World} {base n : Nat} {e : TypeId} {size : Nat} {v : Value} {xs : List Value} (h : w.ownsRow base e size v n xs) : ∃ a m c, v = .slice a m c := by
  rcases h.2 with ⟨rfl, _⟩ | ⟨g, cap, cur, rfl, _⟩
  · exact ⟨_, _, _, rfl⟩
  · exact ⟨_, _, _, rfl⟩
theorem act_cells {w : World} (k : Int) (p t : ByteArray) (v : Value) (j : Nat) (u : Value) (h : [Value.int .i64 k, .string p, .string t, v][j]? = some u) :
    (w.alloc (.cells #[.int .i64 k, .string p, .string t, v] 86)).cell? ((⟨w.heap.size, 0, none⟩ : Addr).add j) = some u := by
  rw [Addr.add_lit, Nat.zero_add, World.cell?_alloc_at _ _ _ _ rfl]
  simpa using h
theorem act_one (k : Int) (p t : ByteArray) (a : Option Addr) : ∀ u ∈ [Value.int .i64 k, .string p, .string t, .pointer a], u.oneCell' = true := by
  intro u hu
  simp only [List.mem_cons, List.not_mem_nil, or_false] at hu
  rcases hu with rfl | rfl | rfl | rfl <;> rfl
theorem enact_end {w w2 : World} {fb b n k : Nat} {D : DataW Value} {sure done v unsure : Value} {came used room steps : Int} {dead : Bool} {ys : List Value} {cs : List Nat} (t1 : FsAt w2 fb (.map (some b)) sure done unsure came used room steps dead) (t2 : NMap w2 b n D) (t3 : Kept (b :: fb :: cs) w w2)
    (ho : w2.ownsRow B0 86 4 v k ys) : ∃ done', FsAt (w2.setCell ⟨fb, 2, none⟩ v) fb (.map (some b)) sure done' unsure came used room steps dead ∧ NMap (w2.setCell ⟨fb, 2, none⟩ v) b n D ∧ (w2.setCell ⟨fb, 2, none⟩ v).ownsRow B0 86 4 done' k ys ∧ Kept (b :: fb :: cs) w (w2.setCell ⟨fb, 2, none⟩ v) := by
  have hbf := file_ne_map t1 t2
  refine ⟨v, ?_, (Kept.set fb 2 v).map t2 (by simpa using fun e => hbf e.symm), (Kept.set fb 2 v).row ho (fun g hg => ?_), ?_⟩
  · unfold FsAt
    rw [heap_setCell_same w2 fb 2 _ 79 _ t1]
    rfl
  · have := row_ne ho t1 (fun cur => by simp) g hg
    simpa using this
  · exact (t3.trans (Kept.set fb 2 v)).sub (by intro a h; simp at h ⊢; rcases h with h | h | h | h <;> simp [h])
set_option maxHeartbeats 800000 in
set_option maxRecDepth 100000 in
theorem enact_comes {w : World} {fb b n k : Nat} {D : DataW Value} {sure done unsure : Value} {came used room steps : Int} {dead : Bool} {xs : List Value} (h : FsAt w fb (.map (some b)) sure done unsure came used room steps dead) (hm : NMap w b n D) (hn : n < 1000)
    (hr : w.ownsRow B0 86 4 done k xs) (hB : B0 ≤ w.heap.size) (hk : k < 1000) (p : ByteArray) (hp : p.size ≤ 140737488355328) (hd : dirOf p = ⟨#[]⟩) (hh : Maps.has D (key p) = false) (x : Option Addr) :
    Calls Tryz.prog 39 #[.pointer (some ⟨fb, 0, none⟩), .agg #[.int .i64 0, .string p, .string ⟨#[]⟩, .pointer x]] w fun e w' => e = .returned (.tuple #[]) ∧ ∃ done', FsAt w' fb (.map (some b)) sure done' unsure came used room steps dead ∧
      NMap w' b (n + 1) (D.put (key p) (.held (.pointer x))) ∧ w'.ownsRow B0 86 4 done' (k + 1) (xs ++ [.int .i64 0, .string p, .string ⟨#[]⟩, .pointer x]) ∧ Kept (b :: fb :: done.ownBlock.toList) w w' := by
  obtain ⟨i0, hi0, hz0, hz1, hz2⟩ := info_parts infoA
  obtain ⟨W, hW⟩ : ∃ W, w.alloc (.cells #[.int .i64 0, .string p, .string ⟨#[]⟩, .pointer x] 86) = W := ⟨_, rfl⟩
  have hkW : Kept [] w W := by rw [← hW]; exact Kept.alloc _ _
  have hf := hkW.fs h (by simp)
  have hm' := hkW.map hm (by simp)
  have hr' := hkW.row hr (by simp)
  have hbf := file_ne_map hf hm'
  have hrow : W.heap[w.heap.size]? = some (.cells #[.int .i64 0, .string p, .string ⟨#[]⟩, .pointer x] 86 (0, 0)) := by rw [← hW]; exact alloc_at rfl
  have c0 : W.cell? ⟨w.heap.size, 0, none⟩ = some (.int .i64 0) := cellAt hrow rfl
  have c1 : W.cell? ⟨w.heap.size, 1, none⟩ = some (.string p) := cellAt hrow rfl
  have c2 : W.cell? ⟨w.heap.size, 2, none⟩ = some (.string ⟨#[]⟩) := cellAt hrow rfl
  have c3 : W.cell? ⟨w.heap.size, 3, none⟩ = some (.pointer x) := cellAt hrow rfl
  have d0 := fs0 hf
  have HD : Hid (∀ X, Same W X → Calls Tryz.prog 46 #[.map (some b), .agg #[.int .i64 0, .string p, .string ⟨#[]⟩, .pointer x]] X fun e w' => e = .returned (.tuple #[]) ∧ NMap w' b (n + 1) (D.put (key p) (.held (.pointer x))) ∧ Kept [b] W w') := hideIt (fun X hX =>
    (do_comes (hX.kept.map hm' (by simp)) hn p hp hd hh (.pointer x)).mono fun _ _ ⟨h1, h2, h3⟩ => ⟨h1, h2, (hX.kept.trans h3).sub (by simp)⟩)
  have hlt : w.heap.size < W.heap.size := block_lt hrow
  have hbw := block_lt h
  have hbm : b < w.heap.size := hm.lt
  have hrl := hr.lt
  have HN : Hid (∀ w1, Kept [b] W w1 → FsAt w1 fb (.map (some b)) sure done unsure came used room steps dead ∧ w1.ownsRow B0 86 4 done k xs ∧ w1.heap[w.heap.size]? = some (.cells #[.int .i64 0, .string p, .string ⟨#[]⟩, .pointer x] 86 (0, 0))) := hideIt (fun w1 hk1 =>
    ⟨hk1.fs hf (by simpa using hbf), hk1.row hr' (fun g hg => by
      obtain ⟨es, c, h1, _⟩ := hm'
      have := row_ne hr' h1 (fun cur => by simp) g hg
      simpa using this), hk1.fs hrow (by simp; omega)⟩)
  have HS : Hid (∀ X, Kept [b] W X → X.cell? ⟨fb, 0, none⟩ = some (.map (some b)) ∧ X.cell? ⟨w.heap.size, 0, none⟩ = some (.int .i64 0) ∧ X.cell? ⟨w.heap.size, 1, none⟩ = some (.string p) ∧ X.cell? ⟨w.heap.size, 2, none⟩ = some (.string ⟨#[]⟩) ∧ X.cell? ⟨w.heap.size, 3, none⟩ = some (.pointer x)) := hideIt (fun X hX =>
    ⟨fs0 (HN.out X hX).1, cellAt (HN.out X hX).2.2 rfl, cellAt (HN.out X hX).2.2 rfl, cellAt (HN.out X hX).2.2 rfl, cellAt (HN.out X hX).2.2 rfl⟩)
  have HKW := hideIt hkW
  clear h hm hr hkW hf hm' hr' hrow hd hh
  go_enter Tryz.func39, Tryz.ntmps39
  go_wp2
  go_region_held3 (fun X => X.cell? ⟨fb, 0, none⟩ = some (.map (some b)) ∧ X.cell? ⟨w.heap.size, 0, none⟩ = some (.int .i64 0) ∧ X.cell? ⟨w.heap.size, 1, none⟩ = some (.string p) ∧ X.cell? ⟨w.heap.size, 2, none⟩ = some (.string ⟨#[]⟩) ∧ X.cell? ⟨w.heap.size, 3, none⟩ = some (.pointer x)) (first | exact ⟨d0, c0, c1, c2, c3⟩ | exact HS.out _ (by assumption) | assumption) (first | (go_at_call 46; refine (HD.out _ (by exact ⟨rfl, rfl, rfl, rfl⟩)).mono ?_; rintro e w1 ⟨rfl, hm1, hk1⟩))
  obtain ⟨hf1, hr1, hrow1⟩ := HN.out w1 hk1
  have e2 := fs2 hf1
  have l1 : fb < w1.heap.size := block_lt hf1
  have l2 : w.heap.size < w1.heap.size := block_lt hrow1
  have lB : B0 ≤ w1.heap.size := by omega
  have a0 : w1.cell? ⟨w.heap.size, 0, none⟩ = some (.int .i64 0) := cellAt hrow1 rfl
  have a1 : w1.cell? ⟨w.heap.size, 1, none⟩ = some (.string p) := cellAt hrow1 rfl
  have a2 : w1.cell? ⟨w.heap.size, 2, none⟩ = some (.string ⟨#[]⟩) := cellAt hrow1 rfl
  have a3 : w1.cell? ⟨w.heap.size, 3, none⟩ = some (.pointer x) := cellAt hrow1 rfl
  have HG : Hid (∀ (o : Obj) w2, (w1.alloc o).drew.grownBy w2 done.ownBlock → FsAt w2 fb (.map (some b)) sure done unsure came used room steps dead ∧ NMap w2 b (n + 1) (D.put (key p) (.held (.pointer x))) ∧ Kept (b :: fb :: done.ownBlock.toList) w w2) := hideIt (fun o w2 hg => by
    have hne1 := row_ne hr1 hf1 (fun cur => by simp)
    have hne2 : ∀ g, done.ownBlock = some g → g ≠ b := by
      obtain ⟨es, c, h1, _⟩ := hm1
      exact row_ne hr1 h1 (fun cur => by simp)
    have hk2 : Kept done.ownBlock.toList w1 w2 := ((Kept.alloc w1 o).drew.trans (Kept.of_grown hg)).sub (by simp)
    have m1 : fb ∉ done.ownBlock.toList := by
      cases hob : done.ownBlock with
      | none => simp
      | some g => simp; exact fun e => hne1 g hob e.symm
    have m2 : b ∉ done.ownBlock.toList := by
      cases hob : done.ownBlock with
      | none => simp
      | some g => simp; exact fun e => hne2 g hob e.symm
    refine ⟨hk2.fs hf1 m1, hk2.map hm1 m2, ?_⟩
    exact ((HKW.out.trans hk1).trans hk2).sub (by simp; exact fun y hy => Or.inr (Or.inr hy)))
  have HR := hideIt hr1
  clear hf1 hr1 hrow1 hm1 hk1
  go_wp2
  go_region_law (refine step_append_own (by rfl) _ _ 76 (by rfl) B0 86 i0 _ 4 48 Tryz.underlying76 hi0 hz0 hz1 hz2 rfl (by decide) done k xs (by rfl) (HR.out.drew.alloc _) ⟨w1.heap.size, 0, none⟩ 1 1 [.int .i64 0, .string p, .string ⟨#[]⟩, .pointer x] (by rfl) rfl (act_cells 0 p ⟨#[]⟩ (.pointer x)) (act_one 0 p ⟨#[]⟩ x) (by unfold maxLen; omega) (by omega) (by simp; omega) ?_; intro v' w2 hown2 hg2; obtain ⟨va, vm, vc, rfl⟩ := slice_of hown2; obtain ⟨t1, t2, t3⟩ := HG.out _ _ hg2; have s2 := fs2 t1; have s3 := thawAt t1 2)
  all_goals exact bodyPost_end (results_none Tryz.results39 _ _ _) rfl ⟨rfl, enact_end t1 t2 t3 hown2⟩
end Go.Proofs.YtefefgiooknpkaaGreatDoor
