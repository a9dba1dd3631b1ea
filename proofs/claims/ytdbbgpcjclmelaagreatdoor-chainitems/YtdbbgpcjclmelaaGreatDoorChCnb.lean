/- Chains: a map of groups of numbers, step by step. -/
import Derived.Test.YtdbbgpcjclmelaaGreatDoorChCm
namespace Go.Proofs.YtdbbgpcjclmelaaGreatDoor.Ch
open Cb Go.RowKit Go.Shelf Go.Maps
theorem step_look {H : Type} {P : Program} (w : World) {ops : Array Oper} {o : Oper} {a : Act} {K : Act → World → Prop} {Q : Exit → Act → World → Prop} {E : Prop}
    (hg : o.guard = none) (m x : Operand) (t : TypeId) (hop : o.op = Op.lookup t m x false)
    (k Et e : TypeId) (q : IntKind) (Kd : Keyed P k) (ht : P.underlying t = some (.map k Et)) (hz : (zeroValue Et).run P w = .ok (.slice none 0 0) w) (base b n : Nat) (D : DataW H)
    (hm : a.eval m = .map (some b)) (hown : w.ownsGroups P k base e q b n D) (hn : n < maxLen) (key : Value) (kl : Lit) (hx : a.eval x = key) (hkey : keyOf P k key = some kl)
    (hK : ∀ v zs, D.atKey kl .nil = rowDatum q v zs → w.ownsInts base e q v zs → zs.length ≤ n → w.groupBack P t k base e q b n D key kl v → K (a.put o.dst v) w) :
    if Region.wanted o (yielded ops a.tmps) = true then Oper.wp P o a w K Q else E := by
  have hw : Region.wanted o (yielded ops a.tmps) = true := by simp [Region.wanted, hg]
  rw [if_pos hw]
  obtain ⟨v, zs, hrun, hat, hoi, hzl, hback⟩ := hown.at Kd ht hz hn hkey
  unfold Oper.wp
  simp [execOp, hop, hm, hx, hrun, Result.andThen]
  exact hK v zs hat hoi hzl hback
theorem step_back {H : Type} {P : Program} (w : World) {ops : Array Oper} {o : Oper} {a : Act} {K : Act → World → Prop} {Q : Exit → Act → World → Prop} {E : Prop}
    (hg : o.guard = none) (m x v : Operand) (t : TypeId) (hop : o.op = Op.mapUpdate t m x v)
    {w0 : World} {k : TypeId} {base : Nat} {e : TypeId} {q : IntKind} {b n : Nat} {D : DataW H} {key : Value} {kl : Lit} {u v' : Value} {zs' : List Int}
    (hback : w0.groupBack P t k base e q b n D key kl u) (hm : a.eval m = .map (some b)) (hx : a.eval x = key) (hv : a.eval v = v')
    (hgr : w0.grownBy w u.ownBlock) (hown' : w.ownsInts base e q v' zs') (hl' : zs'.length ≤ n + 1) (hloc : v'.ownBlock = u.ownBlock ∨ ∃ g, v'.ownBlock = some g ∧ w0.heap.size ≤ g)
    (hK : ∀ w2, w2.ownsGroups P k base e q b (n + 1) (D.put kl (rowDatum q v' zs')) → w.grownBy w2 (some b) → K (a.put o.dst undef) w2) :
    if Region.wanted o (yielded ops a.tmps) = true then Oper.wp P o a w K Q else E := by
  have hw : Region.wanted o (yielded ops a.tmps) = true := by simp [Region.wanted, hg]
  rw [if_pos hw]
  obtain ⟨w2, hrun, r1, r2⟩ := hback w v' zs' hgr hown' hl' hloc
  unfold Oper.wp
  simp [execOp, hop, hm, hx, hv, hrun, Result.andThen]
  exact hK w2 r1 r2
theorem infoIs : (Tryz.prog.info? 23).map (fun i => (i.zero, i.size, i.bytes)) = some (some (.slice none 0 0), 1, 24) := by kernel_rfl
theorem zeroIs (w : World) : (zeroValue 23).run Tryz.prog w = .ok (.slice none 0 0) w := by
  obtain ⟨i0, hi0, hz0, _, _⟩ := info_parts infoIs
  simp [zeroValue, typeInfo, hi0, hz0]
theorem keyOfL (r : ByteArray) (h : r.size ≤ 1000000) : keyOf Tryz.prog 9 (.string r) = some (keyL r) := Go.WideMaps.keyOf_string_mk Tryz.underlying9 (by unfold maxLen; omega)
def intsN (l : List Nat) : List Int := l.map fun i : Nat => (i : Int)
theorem dat_pos {l : List Nat} (h : l ≠ []) : dat l = .slice (ChangeShapes.lits .i64 (intsN l)) [] := by
  cases l with
  | nil => exact absurd rfl h
  | cons x t => rfl
theorem lits_inj {k : IntKind} {a b : List Int} (h : (ChangeShapes.lits k a : List (DataW Value)) = ChangeShapes.lits k b) : a = b := by
  unfold ChangeShapes.lits at h
  exact (List.map_inj_right (fun x y hxy => by simpa using hxy)).1 h
/-- What a group's row holds is what it reads as. -/
theorem row_is {w : World} {base : Nat} {v : Value} {zs : List Int} {l : List Nat} (h : w.ownsInts base 3 .i64 v zs) (hd : (dat l : DataW Value) = rowDatum .i64 v zs) : zs = intsN l := by
  rcases h.datum (H := Value) with ⟨e, e0⟩ | e
  · rw [e] at hd
    cases l with
    | nil => rw [e0]; rfl
    | cons x t => cases hd
  · rw [e] at hd
    cases l with
    | nil => cases hd
    | cons x t =>
      rw [dat_pos (by simp)] at hd
      simp only [DataW.slice.injEq] at hd
      exact (lits_inj hd.1).symm
theorem intsN_snoc (l : List Nat) (i : Nat) : intsN (l ++ [i]) = intsN l ++ [(i : Int)] := by simp [intsN]
theorem intsN_len (l : List Nat) : (intsN l).length = l.length := by simp [intsN]
/-- The groups of the first i items, made behind W1. -/
def Gp (w W1 : World) (b4 : Nat) (its : List Im) (i : Nat) (X : World) : Prop :=
  ∃ D : DataW Value, X.ownsGroups Tryz.prog 9 W1.heap.size 3 .i64 b4 i D ∧ (∀ key : ByteArray, D.atKey (keyL key) .nil = dat (kidsTo its key i)) ∧ (∀ g, g < W1.heap.size → g ≠ b4 → X.heap[g]? = W1.heap[g]?) ∧ W1.heap.size ≤ X.heap.size ∧ Below w.heap.size w X
theorem Gp.start {w W1 : World} {b4 : Nat} {its : List Im} (hb : Below w.heap.size w W1) (h4 : W1.heap[b4]? = some (.map #[] 0)) : Gp w W1 b4 its 0 W1 :=
  ⟨.map [], ⟨#[], 0, h4, ⟨by simp, MapKept.stamped_empty 0, by simp⟩, Nat.le_refl _, rfl, block_lt h4, by simp, by simp⟩, fun key => rfl, fun _ _ _ => rfl, Nat.le_refl _, hb⟩
/-- One item more. -/
theorem Gp.next {w W1 X Y0 Y Y2 : World} {b4 i : Nat} {its : List Im} {D : DataW Value} {x : Im} {zs : List Int} {u v' : Value} (hx : its[i]? = some x)
    (hD : ∀ key : ByteArray, D.atKey (keyL key) .nil = dat (kidsTo its key i)) (hk : ∀ g, g < W1.heap.size → g ≠ b4 → X.heap[g]? = W1.heap[g]?) (hs : W1.heap.size ≤ X.heap.size) (hb : Below w.heap.size w X) (hM : IsMap D)
    (hz : zs = intsN (kidsTo its x.b i)) (hu : Y0.ownsInts W1.heap.size 3 .i64 u zs) (hXY : Below X.heap.size X Y0) (hg1 : Y0.grownBy Y u.ownBlock) (ho : Y.ownsInts W1.heap.size 3 .i64 v' (zs ++ [(i : Int)]))
    (h2 : Y2.ownsGroups Tryz.prog 9 W1.heap.size 3 .i64 b4 (i + 1) (D.put (keyL x.b) (rowDatum .i64 v' (zs ++ [(i : Int)])))) (hg2 : Y.grownBy Y2 (some b4)) (hb4 : w.heap.size ≤ b4) (hw1 : w.heap.size ≤ W1.heap.size) : Gp w W1 b4 its (i + 1) Y2 := by
  have hge : ∀ k, u.ownBlock = some k → W1.heap.size ≤ k := fun k hk' => (hu.1.lt k hk').1
  refine ⟨_, h2, fun key => ?_, fun g hg hne => ?_, ?_, ?_⟩
  · rw [kids_next hx]
    by_cases e : x.b = key
    · subst e
      rw [if_pos rfl, atKey_put_same hM (by trivial), ho.datum_pos (by simp), hz, ← intsN_snoc, dat_pos (by simp)]
    · rw [if_neg e, atKey_put_other (fun h => e (by
        unfold keyL at h
        simp only [Lit.string.injEq] at h
        exact (bytes_ext h).symm)), hD key]
  · rw [hg2.block g (Nat.lt_of_lt_of_le hg (Nat.le_trans hs (Nat.le_trans hXY.size hg1.size))) (fun h => hne (by simpa using h)), hg1.block g (Nat.lt_of_lt_of_le hg (Nat.le_trans hs hXY.size)) (fun h => by have := hge g h.symm; omega), hXY.block g (Nat.lt_of_lt_of_le hg hs)]
    exact hk g hg hne
  · exact Nat.le_trans hs (Nat.le_trans hXY.size (Nat.le_trans hg1.size hg2.size))
  · have b1 : Below w.heap.size w Y0 := hb.trans (hXY.mono hb.size)
    have b2 : Below w.heap.size w Y := b1.grown hg1 b1.size (fun k hk' => Nat.le_trans hw1 (hge k hk'))
    exact b2.grown hg2 b2.size (fun k hk' => by simp at hk'; omega)
theorem back_alloc {w : World} {t k : TypeId} {base b n : Nat} {D : DataW Value} {key : Value} {kl : Lit} {u : Value} (h : w.groupBack Tryz.prog t k base 3 .i64 b n D key kl u) (O : Obj) : (w.alloc O).groupBack Tryz.prog t k base 3 .i64 b n D key kl u :=
  fun w1 v' zs' hg ho hl hloc => h w1 v' zs' ⟨hg.os, hg.tape, hg.output, Nat.le_trans (by simp) hg.size, fun k hk hne => (hg.block k (Nat.lt_of_lt_of_le hk (by simp)) hne).trans (Below.heap_alloc w O k hk)⟩ ho hl (hloc.imp id fun ⟨g, h1, h2⟩ => ⟨g, h1, Nat.le_trans (by simp) h2⟩)
theorem groups_isMap {w : World} {base b n : Nat} {D : DataW Value} (h : w.ownsGroups Tryz.prog 9 base 3 .i64 b n D) : IsMap D := by
  obtain ⟨es, cl, _, _, _, e, _⟩ := h
  exact ⟨_, e⟩
theorem groups_below {w X : World} {base b n : Nat} {D : DataW Value} (h : w.ownsGroups Tryz.prog 9 base 3 .i64 b n D) (hb : Below w.heap.size w X) : X.ownsGroups Tryz.prog 9 base 3 .i64 b n D :=
  h.kept (row := none) ⟨hb.os, hb.tape, hb.output, hb.size, fun k hk _ => hb.block k hk⟩ (by simp) (fun es cl _ x _ => by
    cases x.val.ownBlock with
    | none => exact .inl rfl
    | some g => exact .inr (by simp))
/-- The solver itself, and the item at hand. -/
def XB (bx xg : Nat) (BO XO : Obj) (X : World) : Prop := X.heap[bx]? = some BO ∧ X.heap[xg]? = some XO
theorem XB.alloc {bx xg : Nat} {BO XO : Obj} {X : World} (h : XB bx xg BO XO X) (o : Obj) : XB bx xg BO XO (X.alloc o) := ⟨by rw [Below.heap_alloc _ _ _ (block_lt h.1)]; exact h.1, by rw [Below.heap_alloc _ _ _ (block_lt h.2)]; exact h.2⟩
theorem XB.grown {bx xg : Nat} {BO XO : Obj} {X Y : World} {row : Option Nat} (h : XB bx xg BO XO X) (hg : X.grownBy Y row) (h1 : some bx ≠ row) (h2 : some xg ≠ row) : XB bx xg BO XO Y := ⟨(hg.block bx (block_lt h.1) h1).trans h.1, (hg.block xg (block_lt h.2) h2).trans h.2⟩
end Go.Proofs.YtdbbgpcjclmelaaGreatDoor.Ch
