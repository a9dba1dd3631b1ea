/- Pressed bytes spread again, walked: a number, bytes alone, a repetition. -/
import Derived.Test.YtddbhhankmejmaaGreatDoorLdPressw
namespace Go.Proofs.YtddbhhankmejmaaGreatDoor.Ld
open Cb
open Go.RowKit
structure SpMem (N g : Nat) (T : List UInt8) (v : Value) (r : ByteArray) (w0 w : World) : Prop where
  below : Below N w0 w
  size : N ≤ w.heap.size
  gN : N ≤ g
  blk : w.heap[g]? = some (.cells #[v, .string r] 131 (0, 0))
  own : w.ownsRow N 5 1 v T.length (u8s T)
theorem spc0 {w : World} {g : Nat} {v : Value} {r : ByteArray} (h : w.heap[g]? = some (.cells #[v, .string r] 131 (0, 0))) : w.cell? ⟨g, 0, none⟩ = some v := by rw [cell_of_row _ _ 0 _ _ _ h]; rfl
theorem spc1 {w : World} {g : Nat} {v : Value} {r : ByteArray} (h : w.heap[g]? = some (.cells #[v, .string r] 131 (0, 0))) : w.cell? ⟨g, 1, none⟩ = some (.string r) := by rw [cell_of_row _ _ 1 _ _ _ h]; rfl
theorem spf {w : World} {g : Nat} {cs : Array Value} {t : TypeId} (j : Nat) (h : w.heap[g]? = some (.cells cs t (0, 0))) : w.frozen? ⟨g, j, none⟩ = false := by simp [World.frozen?, h]
theorem SpMem.rest {N g : Nat} {T : List UInt8} {v : Value} {r : ByteArray} {w0 w : World} (h : SpMem N g T v r w0 w) (r' : ByteArray) : SpMem N g T v r' w0 (w.setCell ⟨g, 1, none⟩ (.string r')) := by
  refine ⟨h.below.setCell (p := ⟨g, 1, none⟩) h.gN _, by simpa [World.setCell] using h.size, h.gN, by rw [heap_setCell_same w g 1 _ _ _ h.blk]; rfl, h.own.1, ?_⟩
  rcases h.own.2 with ho | ⟨g', cap, cur, e, hb, hh, q⟩
  · exact Or.inl ho
  · refine Or.inr ⟨g', cap, cur, e, hb, ?_, q⟩
    have hne : g' ≠ g := by
      intro e2
      subst e2
      rw [h.blk] at hh
      simp at hh
    rw [heap_setCell_other _ _ _ _ hne]; exact hh
theorem SpMem.drewN {N g : Nat} {T : List UInt8} {v : Value} {r : ByteArray} {w0 w : World} (h : SpMem N g T v r w0 w) (q : Nat) : SpMem N g T v r w0 (w.drewN q) :=
  ⟨h.below.trans ⟨rfl, rfl, rfl, Nat.le_refl _, fun _ _ => rfl⟩, h.size, h.gN, h.blk, h.own⟩
/-- Behind an append and the store of what it yields. -/
theorem SpMem.text {N g n : Nat} {T M : List UInt8} {v v' : Value} {r : ByteArray} {w0 w w1 w2 : World} (h : SpMem N g T v r w0 w) (hb : Below w.heap.size w w1) (hn : n = T.length + M.length) (h2 : w2.ownsRow N 5 1 v' n (u8s T ++ u8s M)) (hg : w1.grownBy w2 v.ownBlock) :
    w2.heap[g]? = some (.cells #[v, .string r] 131 (0, 0)) ∧ SpMem N g (T ++ M) v' r w0 (w2.setCell ⟨g, 0, none⟩ v') := by
  have G := Grew.of h.own h.size hb hn h2 hg
  have hblk := G.keep _ _ _ _ (by decide) h.blk
  refine ⟨hblk, (h.below.trans G.below).setCell (p := ⟨g, 0, none⟩) h.gN _, by simpa [World.setCell] using Nat.le_trans h.size G.below.size, h.gN, by rw [heap_setCell_same w2 g 0 _ _ _ hblk]; rfl, G.own.1, ?_⟩
  rcases G.own.2 with ho | ⟨g', cap, cur, e, hb', hh, q⟩
  · exact Or.inl ho
  · refine Or.inr ⟨g', cap, cur, e, hb', ?_, q⟩
    have hne : g' ≠ g := by
      intro e2
      subst e2
      rw [hblk] at hh
      simp at hh
    rw [heap_setCell_other _ _ _ _ hne]; exact hh
set_option maxHeartbeats 400000 in
set_option maxRecDepth 100000 in
theorem number_ok (g n k most : Nat) (v : Value) (r : ByteArray) (w : World) (hblk : w.heap[g]? = some (.cells #[v, .string r] 131 (0, 0))) (hu : Cd.unnum r.data.toList = (n, k, 0)) (hn : n ≤ most) (hm : most ≤ 100000000) (hr : r.size ≤ 100000000) :
    Calls Tryz.prog 96 #[.pointer (some ⟨g, 0, none⟩), .int .i64 (most : Int)] w fun e w' => e = .returned (.tuple #[.int .i64 (n : Int), .int .i64 0]) ∧ w' = w.setCell ⟨g, 1, none⟩ (.string (r.extract k r.size)) := by
  have c1 := spc1 hblk
  have f1 := spf 1 hblk
  have HU := hideIt (unnum_any r w hr)
  have hk := (Cd.unnum_form hu).2
  rw [str_len] at hk
  rw [hu] at HU
  have k1 : (k : Int) ≤ (r.size : Int) := by omega
  have n1 : ¬ (most : Int) < (n : Int) := by omega
  have m1 : (most : Int) ≤ 100000000 := by omega
  have n2 : (n : Int) ≤ 100000000 := by omega
  have m2 : ¬ (most : Int) < 0 := by omega
  have m3 : decide ((most : Int) < 0) = false := decide_eq_false m2
  clear hblk hu
  go_enter Tryz.func96, Tryz.ntmps96
  go_wp2_with (first | (go_at_call 146; refine HU.out.mono ?_; rintro e w1 ⟨rfl, hw1⟩; obtain rfl := hw1.symm; simp only [unV]))
  go_ret2
  exact ⟨rfl, rfl⟩
set_option maxHeartbeats 400000 in
set_option maxRecDepth 100000 in
theorem number_big (g n k most : Nat) (v : Value) (r : ByteArray) (w : World) (hblk : w.heap[g]? = some (.cells #[v, .string r] 131 (0, 0))) (hu : Cd.unnum r.data.toList = (n, k, 0)) (hn : most < n) (hn2 : n ≤ 100000000) (hr : r.size ≤ 100000000) :
    Calls Tryz.prog 96 #[.pointer (some ⟨g, 0, none⟩), .int .i64 (most : Int)] w fun e w' => e = .returned (.tuple #[.int .i64 0, .int .i64 6]) ∧ w' = w := by
  have c1 := spc1 hblk
  have HU := hideIt (unnum_any r w hr)
  rw [hu] at HU
  have n1 : (most : Int) < (n : Int) := by omega
  have m1 : (most : Int) ≤ 100000000 := by omega
  have n2 : (n : Int) ≤ 100000000 := by omega
  have m2 : ¬ (most : Int) < 0 := by omega
  have m3 : decide ((most : Int) < 0) = false := decide_eq_false m2
  clear hblk hu
  go_enter Tryz.func96, Tryz.ntmps96
  go_wp2_with (first | (go_at_call 146; refine HU.out.mono ?_; rintro e w1 ⟨rfl, hw1⟩; obtain rfl := hw1.symm; simp only [unV]))
  go_ret2
  exact ⟨rfl, rfl⟩
theorem step_append_str {P : Program} {ops : Array Oper} {o : Oper} {a : Act} {w : World} {K : Act → World → Prop} {Q : Exit → Act → World → Prop} {E : Prop}
    (hg : o.guard = none) (s x : Operand) (t u : TypeId) (hop : o.op = Op.call { callee := Callee.builtin Builtin.append, args := #[s, x], argTypes := #[t, u] })
    (base : Nat) (e : TypeId) (i : TypeInfo) (h1 : P.underlying t = some (.slice e)) (hu : P.underlying u = some .string) (h2 : P.info? e = some i) (h3 : i.zero = some (.int .u8 0)) (h4 : i.size = 1) (h5 : i.bytes = 1)
    (v : Value) (n : Nat) (xs : List Value) (hs : a.eval s = v) (hown : w.ownsRow base e 1 v n xs) (b : ByteArray) (hx : a.eval x = .string b)
    (b1 : n + b.size ≤ maxLen) (b2 : n + b.size ≤ 140737488355328) (hbase : base ≤ w.heap.size)
    (hK : ∀ v' w', w'.ownsRow base e 1 v' (n + b.size) (xs ++ Lib.strCells b) → w.grownBy w' v.ownBlock → K (a.put o.dst v') w') :
    if Region.wanted o (yielded ops a.tmps) = true then Oper.wp P o a w K Q else E := by
  have hw : Region.wanted o (yielded ops a.tmps) = true := by simp [Region.wanted, hg]
  rw [if_pos hw]
  obtain ⟨v', w', hrun, r1, r2, _⟩ := Lib.run_append_own_string (P := P) w base t u o.type e i h1 hu h2 h3 h4 h5 v n xs hown b b1 b2 hbase
  unfold Oper.wp
  simp [execOp, hop, resolve, invoke, builtin, hs, hx, hrun, Result.andThen]
  exact hK _ _ r1 r2
theorem slice_of {w : World} {B n : Nat} {v : Value} {xs : List Value} (h : w.ownsRow B 5 1 v n xs) : ∃ a c, v = .slice a n c := by
  rcases h.2 with ⟨e, e2⟩ | ⟨g, cap, cur, e, _⟩
  · subst e2; exact ⟨_, _, e⟩
  · exact ⟨_, _, e⟩
theorem numL_len10 (n : Nat) (h : n < 128 ^ 10) : (Cd.numL n).length ≤ 10 := by
  rw [Cd.numL, List.length_reverse, Cd.numR, List.length_cons]
  have := Cd.more_len 9 n h
  omega
/-- What is left behind a number. -/
theorem past_num {r : ByteArray} {n : Nat} {R : List UInt8} (h : r.data.toList = Cd.numL n ++ R) (hn : n < 9223372036854775808) : Cd.unnum r.data.toList = (n, (Cd.numL n).length, 0) ∧ (r.extract (Cd.numL n).length r.size).data.toList = R := by
  refine ⟨by rw [h]; exact Cd.unnum_num n hn R, ?_⟩
  rw [data_rest, h, List.drop_left]
set_option maxHeartbeats 800000 in
set_option maxRecDepth 100000 in
theorem alone_any (N g left m : Nat) (T M R : List UInt8) (v : Value) (r : ByteArray) (w0 w : World) (h : SpMem N g T v r w0 w) (hr : r.data.toList = Cd.numL m ++ M ++ R) (hm : M.length = m) (hl : m ≤ left) (hl2 : left ≤ 1048576) (hs : r.size ≤ 100000000) (hT : T.length ≤ 1048576) :
    Calls Tryz.prog 97 #[.pointer (some ⟨g, 0, none⟩), .int .i64 (left : Int)] w fun e w' => e = .returned (.int .i64 0) ∧ ∃ v' r', r'.data.toList = R ∧ SpMem N g (T ++ M) v' r' w0 w' := by
  obtain ⟨i0, hi0, hz0, hz1, hz2⟩ := info_parts infoB
  rw [List.append_assoc] at hr
  obtain ⟨pu, pd⟩ := past_num hr (by omega)
  have HN := hideIt (number_ok g m _ left v r w h.blk pu hl (by omega) hs)
  obtain ⟨r1, hr1⟩ : ∃ r1, r.extract (Cd.numL m).length r.size = r1 := ⟨_, rfl⟩
  rw [hr1] at HN pd
  have hs1 := h.rest r1
  obtain ⟨w1, hw1⟩ : ∃ w1, w.setCell ⟨g, 1, none⟩ (.string r1) = w1 := ⟨_, rfl⟩
  rw [hw1] at HN hs1
  have c0 := spc0 hs1.blk
  have c1 := spc1 hs1.blk
  have f0 := spf 0 hs1.blk
  have rs : r1.size = m + R.length := by rw [← str_len, pd, List.length_append, hm]
  have m1 : ¬ (r1.size : Int) < (m : Int) := by omega
  have m2 : (m : Int) ≤ (r1.size : Int) := by omega
  have m3 : (m : Int) ≤ 1048576 := by omega
  obtain ⟨E, hE⟩ : ∃ E, r1.extract 0 m = E := ⟨_, rfl⟩
  have hEd : E.data.toList = M := by rw [← hE, data_mid, List.drop_zero, Nat.sub_zero, pd, ← hm, List.take_left]
  have hEs : E.size = m := by rw [← str_len, hEd, hm]
  obtain ⟨F, hF⟩ : ∃ F, r1.extract m r1.size = F := ⟨_, rfl⟩
  have hFd : F.data.toList = R := by rw [← hF, data_rest, pd, ← hm, List.drop_left]
  have HH := hideIt hs1
  have HX : Hid (∀ (q n : Nat) (v' : Value) (w2 : World), n = T.length + E.size → w2.ownsRow N 5 1 v' n (u8s T ++ Lib.strCells E) → (w1.drewN q).grownBy w2 v.ownBlock → w2.heap[g]? = some (.cells #[v, .string r1] 131 (0, 0)) ∧ SpMem N g (T ++ M) v' r1 w0 (w2.setCell ⟨g, 0, none⟩ v')) := by
    refine hideIt (fun q n v' w2 hn h2 hg2 => ?_)
    rw [str_u8s, hEd] at h2
    exact HH.out.text (w1 := w1.drewN q) ⟨rfl, rfl, rfl, Nat.le_refl _, fun _ _ => rfl⟩ (by rw [hn, hEs, hm]) h2 hg2
  have HFD := hideIt hFd
  have tE : T.length + E.size ≤ 2097152 := by omega
  obtain ⟨sa, sc, hsv⟩ := slice_of h.own
  clear hs1 h hr pu pd hr1 hw1 hm hEd hEs hFd rs
  subst hsv
  go_enter Tryz.func97, Tryz.ntmps97
  go_wp2_with (first | (go_at_call 96; refine HN.out.mono ?_; rintro e wx ⟨rfl, hwx⟩; obtain rfl := hwx.symm))
  go_region_law (refine step_append_str (by rfl) _ _ 82 9 (by rfl) N 5 i0 Tryz.underlying82 Tryz.underlying9 hi0 hz0 hz1 hz2 _ T.length (u8s T) (by rfl) HH.out.own.drew E (by rfl) (by unfold maxLen; omega) (by omega) HH.out.size ?_; intro v' w2 hown2 hg2; obtain ⟨va, vc, rfl⟩ := slice_of hown2; obtain ⟨t1, t2⟩ := HX.out 1 _ _ _ rfl hown2 hg2; have s2 := spc0 t1; have s3 := spf 0 t1; have s4 := spc1 t2.blk; have s5 := spf 1 t2.blk; have T2 := hideIt t2; clear t1 t2)
  all_goals go_wp2
  all_goals go_ret
  all_goals exact ⟨rfl, _, F, HFD.out, T2.out.rest F⟩
end Go.Proofs.YtddbhhankmejmaaGreatDoor.Ld
