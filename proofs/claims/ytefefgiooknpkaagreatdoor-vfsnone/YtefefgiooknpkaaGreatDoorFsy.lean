/- A file's bytes are laid, walked. -/
import Derived.Test.YtefefgiooknpkaaGreatDoorFsx
import Derived.Deep.RegionLaw
namespace Go.Proofs.YtefefgiooknpkaaGreatDoor
open Go.RowKit Go.Shelf Go.Maps
theorem file_ne_map {w : World} {xb mb n : Nat} {k : TypeId} {D : DataW Value} {arr : Array Value} {t : TypeId} (h : w.heap[xb]? = some (.cells arr t (0, 0))) (hm : w.ownsMap Tryz.prog k anyE mb n D) : xb ≠ mb := by
  intro e
  subst e
  obtain ⟨es, c, h1, _⟩ := hm
  rw [h] at h1
  cases h1
theorem Kept.of_turned {w w' : World} {b : Nat} (h : w.mapTurned w' b) : Kept [b] w w' := by
  have g := h.grown
  exact ⟨g.os, g.tape, g.output, g.size, fun k hk hn => g.block k hk (fun e => hn (by simp [Option.some.inj e]))⟩
theorem keyI (n : Nat) (h : n < 1000) : keyOf Tryz.prog 3 (.int .i64 (n : Int)) = some (.int .i64 (n : Int)) := keyOf_int_mk Tryz.underlying3 (WalkArith.wf_i64 (by omega))
theorem step_delete_own {ops : Array Oper} {o : Oper} {a : Act} {w : World} {K : Act → World → Prop} {Q : Exit → Act → World → Prop} {E : Prop}
    (hg : o.guard = none) (m x : Operand) (t k : TypeId) (hop : o.op = Op.call { callee := Callee.builtin Builtin.delete, args := #[m, x], argTypes := #[t, k] })
    (e : TypeId) (hk : Keyed Tryz.prog k) (ht : Tryz.prog.underlying t = some (.map k e)) (b n : Nat) (D : DataW Value)
    (hm : a.eval m = .map (some b)) (hown : w.ownsMap Tryz.prog k anyE b n D) (ky : Value) (kl : Lit) (hx : a.eval x = ky) (hkey : keyOf Tryz.prog k ky = some kl)
    (hK : ∀ w', w'.ownsMap Tryz.prog k anyE b n (D.del kl) → w.mapTurned w' b → K (a.put o.dst (.tuple #[])) w') :
    if Region.wanted o (yielded ops a.tmps) = true then Oper.wp Tryz.prog o a w K Q else E := by
  have hw : Region.wanted o (yielded ops a.tmps) = true := by simp [Region.wanted, hg]
  rw [if_pos hw]
  obtain ⟨w', hrun, r1, r2⟩ := hown.drop hk ht hkey o.type
  unfold Oper.wp
  simp [execOp, hop, resolve, invoke, builtin, hm, hx, hrun, Result.andThen]
  exact hK _ r1 r2
section
variable {w : World} {fb xb mb n : Nat} {now sure done : Value} {came used room steps links : Int} {dead : Bool} {num : Nat} {b0 s0 : ByteArray} {D : DataW Value}
theorem laid_file (h : FileAt w xb num b0 s0 links) (a b : ByteArray) : FileAt ((w.setCell ⟨xb, 1, none⟩ (.string a)).setCell ⟨xb, 2, none⟩ (.string b)) xb num a b links := by
  have a1 := heap_setCell_same w xb 1 _ 82 (.string a) h
  unfold FileAt
  rw [heap_setCell_same _ xb 2 _ 82 _ a1]
  rfl
set_option maxHeartbeats 400000 in
set_option maxRecDepth 100000 in
theorem lay_same (h : FsAt w fb now sure done (.map (some mb)) came used room steps dead) (hx : FileAt w xb num b0 s0 links) (hm : UMap w mb n D) (hfx : fb ≠ xb) (hn : num < 1000) (a : ByteArray) :
    Calls Tryz.prog 41 #[.pointer (some ⟨fb, 0, none⟩), .pointer (some ⟨xb, 0, none⟩), .string a, .string a] w fun e w' => e = .returned (.tuple #[]) ∧
      FileAt w' xb num a a links ∧ UMap w' mb n (D.del (.int .i64 num)) ∧ Kept [xb, mb] w w' := by
  have c1 := fl1 hx
  have c2 := fl2 hx
  have g1 := thawAt hx 1
  have g2 := thawAt hx 2
  have hmx := file_ne_map hx hm
  obtain ⟨W, hW⟩ : ∃ W, (w.setCell ⟨xb, 1, none⟩ (.string a)).setCell ⟨xb, 2, none⟩ (.string a) = W := ⟨_, rfl⟩
  have hk : Kept [xb] w W := by rw [← hW]; exact ((Kept.set xb 1 _).trans (Kept.set xb 2 _)).sub (by simp)
  have hf := hk.fs h (by simpa using hfx)
  have hx' : FileAt W xb num a a links := by rw [← hW]; exact laid_file hx a a
  have hm' := hk.map hm (by simpa using fun e => hmx e.symm)
  have d3 := fs3 hf
  have d0 := fl0 hx'
  have q1 : (a.toList == a.toList) = true := by simp
  have HM : Hid (UMap W.drew mb n D) := hideIt hm'.drew
  have HX := hideIt hx'
  have HK := hideIt hk
  have hki := keyI num hn
  clear h hx hm hk hf hx' hm'
  go_enter Tryz.func41, Tryz.ntmps41
  go_wp2
  go_region_law (refine step_delete_own (by rfl) _ _ 77 3 (by rfl) 80 kI Tryz.underlying77 mb n D (by rfl) HM.out _ _ (by rfl) hki ?_; intro w1 hm1 ht1)
  all_goals exact bodyPost_end (results_none Tryz.results41 _ _ _) rfl ⟨rfl, (Kept.of_turned ht1).fs HX.out (by simpa using hmx), hm1, (HK.out.drew.trans (Kept.of_turned ht1)).sub (by simp)⟩
set_option maxHeartbeats 400000 in
set_option maxRecDepth 100000 in
theorem lay_other (h : FsAt w fb now sure done (.map (some mb)) came used room steps dead) (hx : FileAt w xb num b0 s0 links) (hm : UMap w mb n D) (hfx : fb ≠ xb) (hn : num < 1000) (hnn : n < 1000) (a b : ByteArray) (hab : a.data.toList ≠ b.data.toList) :
    Calls Tryz.prog 41 #[.pointer (some ⟨fb, 0, none⟩), .pointer (some ⟨xb, 0, none⟩), .string a, .string b] w fun e w' => e = .returned (.tuple #[]) ∧
      FileAt w' xb num a b links ∧ UMap w' mb (n + 1) (D.put (.int .i64 num) (.held (.pointer (some ⟨xb, 0, none⟩)))) ∧ Kept [xb, mb] w w' := by
  have c1 := fl1 hx
  have c2 := fl2 hx
  have g1 := thawAt hx 1
  have g2 := thawAt hx 2
  have hmx := file_ne_map hx hm
  obtain ⟨W, hW⟩ : ∃ W, (w.setCell ⟨xb, 1, none⟩ (.string a)).setCell ⟨xb, 2, none⟩ (.string b) = W := ⟨_, rfl⟩
  have hk : Kept [xb] w W := by rw [← hW]; exact ((Kept.set xb 1 _).trans (Kept.set xb 2 _)).sub (by simp)
  have hf := hk.fs h (by simpa using hfx)
  have hx' : FileAt W xb num a b links := by rw [← hW]; exact laid_file hx a b
  have hm' := hk.map hm (by simpa using fun e => hmx e.symm)
  have d3 := fs3 hf
  have d0 := fl0 hx'
  have q1 : (a.toList == b.toList) = false := by rw [ByteArray.toList_eq, ByteArray.toList_eq]; simpa using hab
  have hmd : UMap W.drew mb n D := hm'.drew
  obtain ⟨w1, hrun, hm1, ht1⟩ := hmd.store (t := 77) kI Tryz.underlying77 (by unfold maxLen; omega) (keyI num hn) (val := .pointer (some ⟨xb, 0, none⟩)) rfl
  have HM := hideIt hm1
  have HT := hideIt ht1
  have HX := hideIt hx'
  have HK := hideIt hk
  clear h hx hm hk hf hx' hm' hmd hm1 ht1
  go_enter Tryz.func41, Tryz.ntmps41
  go_wp2
  go_region
  all_goals exact bodyPost_end (results_none Tryz.results41 _ _ _) rfl ⟨rfl, (Kept.of_turned HT.out).fs HX.out (by simpa using hmx), HM.out, (HK.out.drew.trans (Kept.of_turned HT.out)).sub (by simp)⟩
end
end Go.Proofs.YtefefgiooknpkaaGreatDoor
