/- Pressed bytes spread again: what stands in memory. -/
import Derived.Test.YtjiigdjopcegeaaDoorLdPressw
namespace Go.Proofs.YtjiigdjopcegeaaDoor.Ld
open Cb
open Go.RowKit
structure SpMem (N g : Nat) (T : List UInt8) (v : Value) (r : ByteArray) (w0 w : World) : Prop where
  below : Below N w0 w
  size : N ≤ w.heap.size
  gN : N ≤ g
  blk : w.heap[g]? = some (.cells #[v, .string r] 99 (0, 0))
  own : w.ownsRow N 5 1 v T.length (u8s T)
theorem spc0 {w : World} {g : Nat} {v : Value} {r : ByteArray} (h : w.heap[g]? = some (.cells #[v, .string r] 99 (0, 0))) : w.cell? ⟨g, 0, none⟩ = some v := by rw [cell_of_row _ _ 0 _ _ _ h]; rfl
theorem spc1 {w : World} {g : Nat} {v : Value} {r : ByteArray} (h : w.heap[g]? = some (.cells #[v, .string r] 99 (0, 0))) : w.cell? ⟨g, 1, none⟩ = some (.string r) := by rw [cell_of_row _ _ 1 _ _ _ h]; rfl
theorem spf {w : World} {g : Nat} {cs : Array Value} {t : TypeId} (j : Nat) (h : w.heap[g]? = some (.cells cs t (0, 0))) : w.frozen? ⟨g, j, none⟩ = false := by simp [World.frozen?, h]
theorem SpMem.rest {N g : Nat} {T : List UInt8} {v : Value} {r : ByteArray} {w0 w : World} (h : SpMem N g T v r w0 w) (r' : ByteArray) : SpMem N g T v r' w0 (w.setCell ⟨g, 1, none⟩ (.string r')) := by
  refine ⟨h.below.setCell (p := ⟨g, 1, none⟩) h.gN _, by simpa [World.setCell] using h.size, h.gN, by rw [heap_setCell_same w g 1 _ _ _ h.blk]; rfl, h.own.1, ?_⟩
  rcases h.own.2 with ho | ⟨g', cap, cur, e, hb, hh, q⟩
  · exact Or.inl ho
  · refine Or.inr ⟨g', cap, cur, e, hb, ?_, q⟩
    have hne : g' ≠ g := by
      intro e2
      subst e2
      rw [h.blk] at hh
      simp at hh
    rw [heap_setCell_other _ _ _ _ hne]; exact hh
theorem SpMem.drewN {N g : Nat} {T : List UInt8} {v : Value} {r : ByteArray} {w0 w : World} (h : SpMem N g T v r w0 w) (q : Nat) : SpMem N g T v r w0 (w.drewN q) :=
  ⟨h.below.trans ⟨rfl, rfl, rfl, Nat.le_refl _, fun _ _ => rfl⟩, h.size, h.gN, h.blk, h.own⟩
/-- Behind an append and the store of what it yields. -/
theorem SpMem.text {N g n : Nat} {T M : List UInt8} {v v' : Value} {r : ByteArray} {w0 w w1 w2 : World} (h : SpMem N g T v r w0 w) (hb : Below w.heap.size w w1) (hn : n = T.length + M.length) (h2 : w2.ownsRow N 5 1 v' n (u8s T ++ u8s M)) (hg : w1.grownBy w2 v.ownBlock) :
    w2.heap[g]? = some (.cells #[v, .string r] 99 (0, 0)) ∧ SpMem N g (T ++ M) v' r w0 (w2.setCell ⟨g, 0, none⟩ v') := by
  have G := Grew.of h.own h.size hb hn h2 hg
  have hblk := G.keep _ _ _ _ (by decide) h.blk
  refine ⟨hblk, (h.below.trans G.below).setCell (p := ⟨g, 0, none⟩) h.gN _, by simpa [World.setCell] using Nat.le_trans h.size G.below.size, h.gN, by rw [heap_setCell_same w2 g 0 _ _ _ hblk]; rfl, G.own.1, ?_⟩
  rcases G.own.2 with ho | ⟨g', cap, cur, e, hb', hh, q⟩
  · exact Or.inl ho
  · refine Or.inr ⟨g', cap, cur, e, hb', ?_, q⟩
    have hne : g' ≠ g := by
      intro e2
      subst e2
      rw [hblk] at hh
      simp at hh
    rw [heap_setCell_other _ _ _ _ hne]; exact hh
theorem step_append_str {P : Program} {ops : Array Oper} {o : Oper} {a : Act} {w : World} {K : Act → World → Prop} {Q : Exit → Act → World → Prop} {E : Prop}
    (hg : o.guard = none) (s x : Operand) (t u : TypeId) (hop : o.op = Op.call { callee := Callee.builtin Builtin.append, args := #[s, x], argTypes := #[t, u] })
    (base : Nat) (e : TypeId) (i : TypeInfo) (h1 : P.underlying t = some (.slice e)) (hu : P.underlying u = some .string) (h2 : P.info? e = some i) (h3 : i.zero = some (.int .u8 0)) (h4 : i.size = 1) (h5 : i.bytes = 1)
    (v : Value) (n : Nat) (xs : List Value) (hs : a.eval s = v) (hown : w.ownsRow base e 1 v n xs) (b : ByteArray) (hx : a.eval x = .string b)
    (b1 : n + b.size ≤ maxLen) (b2 : n + b.size ≤ 140737488355328) (hbase : base ≤ w.heap.size)
    (hK : ∀ v' w', w'.ownsRow base e 1 v' (n + b.size) (xs ++ Lib.strCells b) → w.grownBy w' v.ownBlock → K (a.put o.dst v') w') :
    if Region.wanted o (yielded ops a.tmps) = true then Oper.wp P o a w K Q else E := by
  have hw : Region.wanted o (yielded ops a.tmps) = true := by simp [Region.wanted, hg]
  rw [if_pos hw]
  obtain ⟨v', w', hrun, r1, r2, _⟩ := Lib.run_append_own_string (P := P) w base t u o.type e i h1 hu h2 h3 h4 h5 v n xs hown b b1 b2 hbase
  unfold Oper.wp
  simp [execOp, hop, resolve, invoke, builtin, hs, hx, hrun, Result.andThen]
  exact hK _ _ r1 r2
theorem slice_of {w : World} {B n : Nat} {v : Value} {xs : List Value} (h : w.ownsRow B 5 1 v n xs) : ∃ a c, v = .slice a n c := by
  rcases h.2 with ⟨e, e2⟩ | ⟨g, cap, cur, e, _⟩
  · subst e2; exact ⟨_, _, e⟩
  · exact ⟨_, _, e⟩
theorem numL_len10 (n : Nat) (h : n < 128 ^ 10) : (Cd.numL n).length ≤ 10 := by
  rw [Cd.numL, List.length_reverse, Cd.numR, List.length_cons]
  have := Cd.more_len 9 n h
  omega
/-- What is left behind a number. -/
theorem past_num {r : ByteArray} {n : Nat} {R : List UInt8} (h : r.data.toList = Cd.numL n ++ R) (hn : n < 9223372036854775808) : Cd.unnum r.data.toList = (n, (Cd.numL n).length, 0) ∧ (r.extract (Cd.numL n).length r.size).data.toList = R := by
  refine ⟨by rw [h]; exact Cd.unnum_num n hn R, ?_⟩
  rw [data_rest, h, List.drop_left]
theorem own_some {w : World} {B n : Nat} {v : Value} {xs : List Value} (h : w.ownsRow B 5 1 v n xs) (hn : 0 < n) : ∃ g c, v = .slice (some ⟨g, 0, none⟩) n c := by
  rcases h.2 with ⟨_, e2⟩ | ⟨g, cap, cur, e, _⟩
  · omega
  · exact ⟨_, _, e⟩
theorem take_more {S : List UInt8} {k : Nat} {x : UInt8} (h : S[k]? = some x) : S.take k ++ [x] = S.take (k + 1) := by
  obtain ⟨hk, rfl⟩ := List.getElem?_eq_some_iff.1 h
  rw [List.take_succ_eq_append_getElem hk]
def lenAt (w : World) (g : Nat) : Nat := match w.cell? ⟨g, 0, none⟩ with | some (.slice _ n _) => n | _ => 0
theorem lenAt_of {N g : Nat} {T : List UInt8} {v : Value} {r : ByteArray} {w0 w : World} (h : SpMem N g T v r w0 w) : lenAt w g = T.length := by
  obtain ⟨a, c, hv⟩ := slice_of h.own
  rw [lenAt, spc0 h.blk, hv]
theorem run_make_room (n : Nat) (hn : n ≤ 1048576) (w : World) :
    (Instr.makeSlice 42 (.int .i64 0) (.int .i64 (n : Int))).run Tryd.prog w = .ok (.slice (some ⟨w.heap.size, 0, none⟩) 0 n) (w.alloc (.cells (rowA (List.replicate n 0)) 5)) := by
  obtain ⟨i, hi, hz, hs, hb⟩ := info_parts infoB
  have := run_make (P := Tryd.prog) w 42 5 i (.int .u8 0) Tryd.underlying42 hi hz .i64 .i64 0 (n : Int) (by omega) (by omega) (by rw [hb]; omega) (by omega)
  rw [this, hs, Int.toNat_natCast, Nat.mul_one, made_bytes]
  rfl
theorem SpMem.room {N g n : Nat} {p r : ByteArray} {v : Value} {w0 w : World} (hb : Below N w0 w) (hs : N ≤ w.heap.size) (hg : N ≤ g) (hn : n ≤ 1048576) (h : w.heap[g]? = some (.cells #[v, .string r] 99 (0, 0))) (_hp : p = r) :
    (w.alloc (.cells (rowA (List.replicate n 0)) 5)).heap[g]? = some (.cells #[v, .string r] 99 (0, 0)) ∧ SpMem N g [] (.slice (some ⟨w.heap.size, 0, none⟩) 0 n) r w0 ((w.alloc (.cells (rowA (List.replicate n 0)) 5)).setCell ⟨g, 0, none⟩ (.slice (some ⟨w.heap.size, 0, none⟩) 0 n)) := by
  have hgs : g < w.heap.size := (Array.getElem?_eq_some_iff.1 h).1
  have h1 : (w.alloc (.cells (rowA (List.replicate n 0)) 5)).heap[g]? = some (.cells #[v, .string r] 99 (0, 0)) := by rw [Below.heap_alloc _ _ _ hgs]; exact h
  refine ⟨h1, (hb.alloc hs _).setCell (p := ⟨g, 0, none⟩) hg _, by simp [World.setCell]; omega, hg, by rw [heap_setCell_same _ g 0 _ _ _ h1]; rfl, rfl, Or.inr ⟨w.heap.size, n, rowA (List.replicate n 0), rfl, hs, ?_, by simp, by unfold maxLen; omega, by simp [rowA, u8s], by simp [u8s]⟩⟩
  rw [heap_setCell_other _ _ _ _ (by simp; omega)]
  exact alloc_at rfl
end Go.Proofs.YtjiigdjopcegeaaDoor.Ld
