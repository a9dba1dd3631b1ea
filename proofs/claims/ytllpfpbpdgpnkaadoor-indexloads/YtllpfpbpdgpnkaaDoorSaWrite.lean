/- Taking in bytes, walked. -/
import Derived.Test.YtllpfpbpdgpnkaaDoorSaOut
import Derived.Test.YtllpfpbpdgpnkaaDoorSaMsg
namespace Go.Proofs.YtllpfpbpdgpnkaaDoor.Sa
open Go.RowKit
theorem zero73 : Sha.stA (fun _ => 0#32) (fun _ => 0) 0 = ((List.replicate 8 (Value.int .u32 0)) ++ (List.replicate 64 (Value.int .u8 0)) ++ [Value.int .u64 0]).toArray := by kernel_rfl
theorem stA_size (h : Nat → BitVec 32) (b : Nat → UInt8) (n : Nat) : (Sha.stA h b n).size = 73 := by simp [Sha.stA, Sha.stL_len]
theorem info45 (h : Nat → BitVec 32) (b : Nat → UInt8) (n : Nat) : (Tryd.prog.info? 85).map (·.size) = some (Sha.stA h b n).size := by
  rw [stA_size]; kernel_rfl
set_option maxHeartbeats 400000 in
set_option maxRecDepth 100000 in
theorem new_any (w : World) :
    Calls Tryd.prog 42 #[] w fun e w' => e = .returned (.pointer (some ⟨w.heap.size, 0, none⟩)) ∧ w' = w.alloc (.cells (Sha.stA (fun _ => 0#32) (fun _ => 0) 0) 85) := by
  go_enter Tryd.func42, Tryd.ntmps42
  go_wp2_with (first | (refine wpList_build_as rfl 85 _ rfl (Sha.stA (fun _ => 0#32) (fun _ => 0) 0) (by kernel_rfl) ?_))
  go_ret
  exact ⟨rfl, rfl⟩
set_option maxHeartbeats 400000 in
set_option maxRecDepth 100000 in
theorem write_nil (s : ByteArray) (w : World) : Calls Tryd.prog 43 #[.pointer none, .string s] w fun e w' => e = .returned (.tuple #[]) ∧ w' = w := by
  go_enter Tryd.func43, Tryd.ntmps43
  go_wp2
  exact bodyPost_ret (results_none Tryd.results43 _ _ _) rfl ⟨rfl, rfl⟩
set_option maxHeartbeats 400000 in
set_option maxRecDepth 100000 in
theorem sum_nil (w : World) : Calls Tryd.prog 44 #[.pointer none] w fun e w' => e = .returned (.string ⟨#[]⟩) ∧ w' = w := by
  go_enter Tryd.func44, Tryd.ntmps44
  go_wp2
  go_ret
  exact ⟨rfl, rfl⟩
/-- All blocks but one are as they were. -/
structure But (g : Nat) (w w' : World) : Prop where
  os : w'.os = w.os
  tape : w'.tape = w.tape
  output : w'.output = w.output
  size : w.heap.size ≤ w'.heap.size
  block : ∀ k, k < w.heap.size → k ≠ g → w'.heap[k]? = w.heap[k]?
theorem But.refl (g : Nat) (w : World) : But g w w := ⟨rfl, rfl, rfl, Nat.le_refl _, fun _ _ _ => rfl⟩
theorem But.trans {g : Nat} {a b c : World} (h : But g a b) (k : But g b c) : But g a c :=
  ⟨k.os.trans h.os, k.tape.trans h.tape, k.output.trans h.output, Nat.le_trans h.size k.size, fun i hi hg => (k.block i (Nat.lt_of_lt_of_le hi h.size) hg).trans (h.block i hi hg)⟩
theorem But.drew {g : Nat} {a w : World} (h : But g a w) : But g a w.drew := ⟨h.os, h.tape, h.output, h.size, h.block⟩
theorem But.of_below {g : Nat} {a w : World} (h : Below a.heap.size a w) : But g a w := ⟨h.os, h.tape, h.output, h.size, fun k hk _ => h.block k hk⟩
theorem But.setRow {g : Nat} {a w : World} (h : But g a w) (cs : Array Value) : But g a (w.setRow g cs) :=
  ⟨h.os, h.tape, h.output, by simpa using h.size, fun k hk hg => by rw [setRow_other _ _ _ _ hg]; exact h.block k hk hg⟩
theorem But.setCell {g : Nat} {a w : World} (h : But g a w) (i : Nat) (v : Value) : But g a (w.setCell ⟨g, i, none⟩ v) :=
  ⟨h.os, h.tape, h.output, by simpa using h.size, fun k hk hg => by rw [row_other _ hg]; exact h.block k hk hg⟩
structure StMem (g n : Nat) (h : Nat → BitVec 32) (b : Nat → UInt8) (w0 w : World) : Prop where
  but : But g w0 w
  row : w.heap[g]? = some (.cells (Sha.stA h b n) 85 (0, 0))
/-- 'copy' of a text into a row: as many bytes as there is room for. -/
theorem run_copy_str {P : Program} (w : World) (dT sT ty elem : TypeId) (g o dLen dCap : Nat) (s : ByteArray) (cur : List Value) (t : TypeId) (m : Nat) (hm : m = Nat.min s.size dLen)
    (hu : P.underlying dT = some (.slice elem)) (hs : (P.info? elem).map (·.size) = some 1) (hg : w.heap[g]? = some (.cells cur.toArray t (0, 0))) (hfit : o + m ≤ cur.length) :
    (Builtin.copy_ #[dT, sT] ty #[.slice (some ⟨g, o, none⟩) dLen dCap, .string s]).run P w = .ok (goInt m) (w.setRow g (splice cur o ((s.data.toList.take m).map Sha.byte)).toArray) := by
  have hsl : s.data.toList.length = s.size := by rw [Array.length_toList]; rfl
  have hlen : ((s.data.toList.take m).map Sha.byte).length = m := by
    rw [List.length_map, List.length_take, hsl, hm]; exact Nat.min_eq_left (Nat.min_le_left _ _)
  have hst := run_storeCells_at P g o t ((s.data.toList.take m).map Sha.byte) 0 cur.toArray w hg (by rw [hlen]; simpa using hfit) (by
    intro v hv
    obtain ⟨x, _, rfl⟩ := List.mem_map.1 hv
    rfl)
  rw [hlen] at hst
  simp only [Nat.add_zero] at hst
  cases hq : P.info? elem with
  | none => simp [hq] at hs
  | some i =>
    have hi : i.size = 1 := by simpa [hq] using hs
    simp [Builtin.copy_, run_underlying hu, Builtin.lenOf, Builtin.firstCells, sizeOf, typeInfo, hq, ← hm]
    have e1 : List.take m (List.map (fun b : UInt8 => Value.int IntKind.u8 (b.toNat : Int)) s.data.toList) = (s.data.toList.take m).map Sha.byte := by rw [List.map_take]; rfl
    rw [e1, hst, ← List.map_take]
    show Result.ok _ _ = _
    congr 3
    rw [splice, hlen, List.append_assoc]
theorem step_copy_str {P : Program} {ops : Array Oper} {o : Oper} {a : Act} {w : World} {K : Act → World → Prop} {Q : Exit → Act → World → Prop} {E : Prop} (hgd : o.guard = none) (d x : Operand) (dT sT : TypeId)
    (ho : o.op = .call { callee := .builtin .copy, args := #[d, x], argTypes := #[dT, sT] }) (elem : TypeId) (hu : P.underlying dT = some (.slice elem)) (hsz : (P.info? elem).map (·.size) = some 1)
    (g off dLen dCap : Nat) (hd : a.eval d = .slice (some ⟨g, off, none⟩) dLen dCap) (s : ByteArray) (hx : a.eval x = .string s) (cur : List Value) (t : TypeId) (hg : w.heap[g]? = some (.cells cur.toArray t (0, 0)))
    (m : Nat) (hm : m = Nat.min s.size dLen) (hfit : off + m ≤ cur.length)
    (h : K (a.put o.dst (goInt m)) (w.setRow g (splice cur off ((s.data.toList.take m).map Sha.byte)).toArray)) :
    if Region.wanted o (yielded ops a.tmps) = true then Oper.wp P o a w K Q else E := by
  have hw : Region.wanted o (yielded ops a.tmps) = true := by simp [Region.wanted, hgd]
  rw [if_pos hw]
  have hrun := run_copy_str (P := P) w dT sT o.type elem g off dLen dCap s cur t m hm hu hsz hg hfit
  unfold Oper.wp
  simp [execOp, ho, resolve, invoke, builtin, hd, hx, hrun, Result.andThen]
  rw [List.map_take] at h
  exact h
theorem copy_keep {g q : Nat} {h : Nat → BitVec 32} {b b' : Nat → UInt8} {w : World} (hrow : w.heap[g]? = some (.cells (Sha.stA h b q) 85 (0, 0))) :
    (w.drew.setRow g (Sha.stL h b' q).toArray).cell? ⟨g, 72, none⟩ = some (.int .u64 (q : Int)) := by
  rw [cell_of_row _ _ 72 _ _ _ (setRow_heap w.drew _ _ _ _ _ (show w.drew.heap[g]? = _ from hrow))]
  exact Sha.stA_at h b' q 72
theorem StMem.len {g q : Nat} {h : Nat → BitVec 32} {b : Nat → UInt8} {w0 w : World} (hm : StMem g q h b w0 w) (m : Nat) :
    StMem g (q + m) h b w0 (w.setCell ⟨g, 72, none⟩ (.int .u64 ((q : Int) + (m : Int)))) := by
  refine ⟨hm.but.setCell 72 _, ?_⟩
  rw [heap_setCell_same w g 72 _ 85 _ hm.row, show (q : Int) + (m : Int) = ((q + m : Nat) : Int) by omega, Sha.stA_len_set]
theorem StMem.drew {g q : Nat} {h : Nat → BitVec 32} {b : Nat → UInt8} {w0 w : World} (hm : StMem g q h b w0 w) : StMem g q h b w0 w.drew := ⟨hm.but.drew, hm.row⟩
theorem info39L (f : Nat → BitVec 32) : (Tryd.prog.info? 62).map (·.size) = some (Sha.wordsL 8 f).length := by rw [Sha.wordsL_len]; kernel_rfl
theorem info43L (f : Nat → UInt8) : (Tryd.prog.info? 83).map (·.size) = some (Sha.bytesL 64 f).length := by rw [Sha.bytesL_len]; kernel_rfl
theorem st_rangeW {g q : Nat} {h : Nat → BitVec 32} {b : Nat → UInt8} {w0 w : World} (hm : StMem g q h b w0 w) : w.rangeAt g 0 (Sha.wordsL 8 h) := by
  intro j v hv
  have hj : j < 8 := by
    have := (List.getElem?_eq_some_iff.1 hv).1
    rwa [Sha.wordsL_len] at this
  rw [Nat.zero_add, cell_of_row w _ j _ _ _ hm.row, Sha.stA_at, if_pos hj, ← hv]
  simp [Sha.wordsL, hj]
theorem st_rangeB {g q : Nat} {h : Nat → BitVec 32} {b : Nat → UInt8} {w0 w : World} (hm : StMem g q h b w0 w) : w.rangeAt g 8 (Sha.bytesL 64 b) := by
  intro j v hv
  have hj : j < 64 := by
    have := (List.getElem?_eq_some_iff.1 hv).1
    rwa [Sha.bytesL_len] at this
  rw [cell_of_row w _ (8 + j) _ _ _ hm.row, Sha.stA_at, if_neg (by omega), if_pos (by omega), ← hv, show 8 + j - 8 = j by omega]
  simp [Sha.bytesL, hj]
theorem st_K {g q : Nat} {h : Nat → BitVec 32} {b : Nat → UInt8} {w0 w : World} (hm : StMem g q h b w0 w) (hg : 1 < g) (hK : KAt w0) : KAt w := by
  intro i hi
  have hz : 1 < w0.heap.size := block_lt_of_cell (hK 0 (by omega))
  have hb := hm.but.block 1 hz (by omega)
  have e : w.cell? ⟨1, i, none⟩ = w0.cell? ⟨1, i, none⟩ := World.cell?_of_block (w := w0) hb
  rw [e, hK i hi]
theorem st_there {g q : Nat} {h : Nat → BitVec 32} {b : Nat → UInt8} {w0 w w4 : World} (hm : StMem g q h b w0 w) (hb : Below w.heap.size w w4) {f : Nat → BitVec 32} : w4.there g 0 (Sha.wordsA 8 f).size := by
  have hlt : g < w.heap.size := (Array.getElem?_eq_some_iff.1 hm.row).1
  have hr : w4.heap[g]? = some (.cells (Sha.stA h b q) 85 (0, 0)) := (hb.block g hlt).trans hm.row
  intro j hj
  rw [Sha.wordsA_size] at hj
  constructor
  · rw [Nat.zero_add, cell_of_row w4 _ j _ _ _ hr, Sha.stA_at, if_pos hj]; rfl
  · simp [World.frozen?, hr]
theorem heap_setCells {g : Nat} {t : TypeId} : ∀ (vs : List Value) (o : Nat) (w : World) (cur : List Value), w.heap[g]? = some (.cells cur.toArray t (0, 0)) → o + vs.length ≤ cur.length →
    (w.setCells g o vs).heap[g]? = some (.cells (splice cur o vs).toArray t (0, 0))
  | [], o, w, cur, h, _ => by rw [World.setCells, h]; simp [splice]
  | v :: r, o, w, cur, h, hl => by
    have hs := heap_setCell_same w g o _ t v h
    have ih := heap_setCells r (o + 1) (w.setCell ⟨g, o, none⟩ v) (cur.set o v) (t := t) (by rw [hs]; simp) (by simp at hl ⊢; omega)
    rw [World.setCells, ih]
    congr 3
    apply List.ext_getElem?
    intro k
    simp at hl
    rw [Sha.splice_get _ _ _ _ (by simp; omega), Sha.splice_get _ _ _ _ (by simp; omega)]
    simp only [List.length_cons]
    by_cases h1 : k < o
    · rw [if_pos (by omega), if_pos h1, List.getElem?_set_ne (by omega)]
    · by_cases h2 : k = o
      · subst h2
        rw [if_pos (by omega), if_neg (by omega), if_pos (by omega)]
        simp [show k < cur.length by omega]
      · rw [if_neg (by omega), if_neg h1]
        by_cases h3 : k < o + 1 + r.length
        · rw [if_pos h3, if_pos (by omega), show k - o = (k - (o + 1)) + 1 by omega, List.getElem?_cons_succ]
        · rw [if_neg h3, if_neg (by omega), List.getElem?_set_ne (by omega)]
theorem But.setCells {g : Nat} {a : World} : ∀ (vs : List Value) (o : Nat) (w : World), But g a w → But g a (w.setCells g o vs)
  | [], _, _, h => h
  | v :: r, o, _, h => But.setCells r (o + 1) _ (h.setCell o v)
theorem st_words {g q : Nat} {h : Nat → BitVec 32} {b : Nat → UInt8} {w0 w w4 : World} (hm : StMem g q h b w0 w) (hb : Below w.heap.size w w4) (f : Nat → BitVec 32) :
    StMem g q f b w0 (w4.setCells g 0 (Sha.wordsA 8 f).toList) := by
  have hlt : g < w.heap.size := (Array.getElem?_eq_some_iff.1 hm.row).1
  have hr : w4.heap[g]? = some (.cells (Sha.stA h b q) 85 (0, 0)) := (hb.block g hlt).trans hm.row
  refine ⟨(hm.but.trans (But.of_below hb)).setCells _ _ _, ?_⟩
  have e : (Sha.wordsA 8 f).toList = Sha.wordsL 8 f := rfl
  rw [e, heap_setCells _ _ _ _ hr (by rw [Sha.stL_len, Sha.wordsL_len]; omega), Sha.stL_words]
  rfl
theorem wp_load_as {P : Program} {op : Oper} {a : Act} {w : World} {K : Act → World → Prop} {Q : Exit → Act → World → Prop} (ty : TypeId) (x : Operand) (ho : op.op = .load ty x)
    (b o : Nat) (hx : a.eval x = .pointer (some ⟨b, o, none⟩)) (cs : List Value) (arr : Array Value) (harr : arr = cs.toArray) (d : TypeDesc) (hc : w.rangeAt b o cs)
    (hu : P.underlying ty = some d) (hd : d.isRow = true) (hi : (P.info? ty).map (·.size) = some cs.length)
    (h : K (a.put op.dst (.agg arr)) w) : op.wp P a w K Q := by
  subst harr
  exact wp_load_mid ty x ho b o hx cs d hc hu hd hi h
def slen : Value → Nat
  | .string s => s.size
  | _ => 0
def wr_rel (g n : Nat) (M t : List UInt8) (w : World) (v : Value) (w' : World) : Prop :=
  ∃ (dn : List UInt8) (s : ByteArray) (h' : Nat → BitVec 32) (b' : Nat → UInt8), dn ++ s.data.toList = t ∧ v = .string s ∧ StMem g (n + dn.length) h' b' w w' ∧ Sha.Rep (M ++ dn) h' b'
theorem wr_next {g n q m : Nat} {M t dn : List UInt8} {s : ByteArray} {h2 : Nat → BitVec 32} {b2 : Nat → UInt8} {w w3 : World} (hdr : dn ++ s.data.toList = t) (hq : n + dn.length = q) (hm : m ≤ s.size)
    (hst : StMem g (q + m) h2 b2 w w3) (hrep : Sha.Rep (M ++ dn ++ s.data.toList.take m) h2 b2) : wr_rel g n M t w (.string (s.extract m s.size)) w3 := by
  have hsl : s.data.toList.length = s.size := by rw [Array.length_toList]; rfl
  refine ⟨dn ++ s.data.toList.take m, s.extract m s.size, h2, b2, ?_, rfl, ?_, ?_⟩
  · have e : (s.extract m s.size).data.toList = s.data.toList.drop m := by
      rw [ByteArray.data_extract, Array.toList_extract, List.extract_eq_take_drop, List.take_of_length_le]
      rw [List.length_drop, hsl]
      exact Nat.le_refl _
    rw [e, List.append_assoc, List.take_append_drop, hdr]
  · have e : n + (dn ++ s.data.toList.take m).length = q + m := by rw [List.length_append, List.length_take, hsl]; omega
    rw [e]; exact hst
  · rw [← List.append_assoc]; exact hrep
set_option maxHeartbeats 1000000 in
set_option maxRecDepth 100000 in
theorem write_any (g : Nat) (M : List UInt8) (h : Nat → BitVec 32) (b : Nat → UInt8) (t : List UInt8) (w : World) (hK : KAt w) (hg : 1 < g)
    (hrow : w.heap[g]? = some (.cells (Sha.stA h b M.length) 85 (0, 0))) (hrep : M ≠ [] → Sha.Rep M h b) (hsz : M.length + t.length < 1000000000) :
    Calls Tryd.prog 43 #[.pointer (some ⟨g, 0, none⟩), .string ⟨t.toArray⟩] w fun e w' => e = .returned (.tuple #[]) ∧ ∃ h' b', StMem g (M.length + t.length) h' b' w w' ∧ Sha.Rep (M ++ t) h' b' := by
  have HK := hideIt hK
  have HR := hideIt hrow
  have HP := hideIt hrep
  clear hK hrep
  obtain ⟨n, hn⟩ : ∃ n, M.length = n := ⟨_, rfl⟩
  have cn : w.cell? ⟨g, 72, none⟩ = some (.int .u64 (n : Int)) := by rw [cell_of_row _ _ 72 _ _ _ hrow, Sha.stA_at, hn]; rfl
  clear hrow
  have HN := hideIt hn
  rcases Nat.eq_zero_or_pos n with hn0 | hn0
  · have h0 : ((n : Int) == 0) = true := by simp [hn0]
    have hM : M = [] := List.eq_nil_of_length_eq_zero (by omega)
    have hm0 : StMem g n h b w w := ⟨But.refl _ _, by rw [HR.out, hn]⟩
    have HM0 := hideIt hm0
    have HN0 := hideIt hn0
    have HM := hideIt hM
    clear hn hn0 hm0 hM
    go_enter Tryd.func43, Tryd.ntmps43
    go_wp2_with (first | (go_at_call 50; refine (firsts_any _).mono ?_; rintro e w1 ⟨rfl, hb1⟩) | (refine wpList_store_mid rfl 62 _ _ rfl g 0 (Sha.wordsA 8 Sha.init) rfl rfl (st_there HM0.out hb1) (info39 _) (words_all _ _) ?_))
    simp only [Act.put]
    have HS : wr_rel g n M t w (.string ⟨t.toArray⟩) (w1.setCells g 0 (Sha.wordsA 8 Sha.init).toList) :=
      ⟨[], ⟨t.toArray⟩, Sha.init, b, rfl, rfl, st_words HM0.out hb1 Sha.init, by rw [HM.out]; exact Sha.Rep.start b⟩
    go_loopw [1] (fun v w' => wr_rel g n M t w v w') (fun v _ => slen v)
    case atStart => exact HS
    case round =>
      obtain ⟨dn, s, h1, b1, hdr, rfl, hm, hrep⟩ := hrel
      have hsl : s.data.toList.length = s.size := by rw [Array.length_toList]; rfl
      obtain ⟨q, hq⟩ : ∃ q, n + dn.length = q := ⟨_, rfl⟩
      rw [hq] at hm
      have cq : wr.cell? ⟨g, 72, none⟩ = some (.int .u64 (q : Int)) := by rw [cell_of_row _ _ 72 _ _ _ hm.row, Sha.stA_at]; rfl
      have hql : (q : Int) < 1000000000 := by have e := congrArg List.length hdr; have := HN.out; rw [List.length_append] at e; omega
      have HQ := hideIt hq
      have HDR := hideIt hdr
      by_cases hlt : 0 < s.size
      · have hl0 : (0 : Int) < (s.size : Int) := by omega
        have hl1 : (s.size : Int) < 1000000000 := by have e := congrArg List.length hdr; rw [List.length_append] at e; omega
        obtain ⟨r, hr⟩ : ∃ r, r = q % 64 := ⟨_, rfl⟩
        have r1 : (q : Int) % 64 = (r : Int) := by omega
        have r0 : (q : Int).tmod 64 = (r : Int) := by rw [Int.tmod_eq_emod_of_nonneg (by omega)]; exact r1
        have r2 : (r : Int) < 64 := by omega
        have r3 : (0 : Int) ≤ (r : Int) := by omega
        have r4 : (r : Int) ≤ 64 := by omega
        have r5 : r ≤ 64 := by omega
        have r6 : ¬ 64 = r := by omega
        obtain ⟨m, hm1⟩ : ∃ m, m = min s.size (64 - r) := ⟨_, rfl⟩
        have hm2 : m ≤ s.size := by omega
        have hm3 : r + m ≤ 64 := by omega
        have hm4 : 0 < m := by omega
        have hm5 : m < s.size → r + m = 64 := by omega
        have HM1 := hideIt hm1
        have HM5 := hideIt hm5
        clear hm1 hm5
        have HRQ := hideIt hr
        clear hsl hq hdr hsz HS hr
        go_wp2
        go_region_held3 (fun w' => w'.cell? ⟨g, 72, none⟩ = some (.int .u64 (q : Int))) (first | (go_keep; done) | (exact copy_keep hm.row))
          ((refine step_copy_str (by rfl) (.tmp 27) (.tmp 28) 60 9 (by rfl) 5 Tryd.underlying60 (by kernel_rfl) g (8 + r) (64 - r) (64 - r) (by rfl) s (by rfl) (Sha.stL h1 b1 q) 85 (by exact hm.row) m (by exact HM1.out) (by rw [Sha.stL_len]; omega) ?_; rw [Sha.stL_bytes _ _ _ _ _ (by rw [List.length_take]; omega)]))
        obtain ⟨b2, hb2⟩ : ∃ b2, Sha.over b1 r (List.take m s.data.toList) = b2 := ⟨_, rfl⟩
        obtain ⟨w2, hw2⟩ : ∃ w2, wr.drew.setRow g (Sha.stL h1 (Sha.over b1 r (List.take m s.data.toList)) q).toArray = w2 := ⟨_, rfl⟩
        rw [hw2]
        have hm2' : StMem g q h1 b2 w w2 := by
          rw [← hw2, ← hb2]
          exact ⟨(hm.but.drew).setRow _, setRow_heap wr.drew _ _ _ _ _ (show wr.drew.heap[g]? = _ from hm.row)⟩
        have HB := hideIt hb2
        clear hw2 hb2 cq hm
        have cq : w2.cell? ⟨g, 72, none⟩ = some (.int .u64 (q : Int)) := by rw [cell_of_row _ _ 72 _ _ _ hm2'.row, Sha.stA_at]; rfl
        have fq : w2.frozen? ⟨g, 72, none⟩ = false := by simp [World.frozen?, hm2'.row]
        have hmI : (m : Int) ≤ (s.size : Int) := by omega
        have hm0 : (0 : Int) ≤ (m : Int) := by omega
        by_cases hfull : (q + m) % 64 = 0
        · have hb : (((q : Int) + (m : Int)) % 64 == 0) = true := by simp; omega
          have HF := hideIt hfull
          clear hfull
          go_wp2
          obtain ⟨w3, hw3⟩ : ∃ w3, w2.setCell ⟨g, 72, none⟩ (.int .u64 ((q : Int) + (m : Int))) = w3 := ⟨_, rfl⟩
          rw [hw3]
          have hm3' : StMem g (q + m) h1 b2 w w3 := by rw [← hw3]; exact hm2'.len m
          clear hw3 hm2' cq fq
          refine wp_region_any (by kernel_rfl) ?_
          change wpAny _ _ _ _ _ _ _ (World.drew _)
          refine wpAny_take (i := 0) (oi := ⟨some 48, .move (.tmp 0), 76, _, _, none⟩) (v := .pointer (some ⟨g, 0, none⟩)) rfl (by kernel_rfl) (by kernel_rfl) (by kernel_rfl) (fun _ _ _ h => h) (Or.inl ⟨by rfl, fun w => by go_simp⟩) ?_
          simp only [Act.put, List.setIfInBounds_toArray, List.set_cons_zero, List.set_cons_succ]
          refine wpAny_take (i := 1) (oi := ⟨some 49, .move (.tmp 0), 76, _, _, none⟩) (v := .pointer (some ⟨g, 0, none⟩)) rfl (by kernel_rfl) (by kernel_rfl) (by kernel_rfl) (fun _ _ _ h => h) (Or.inl ⟨by rfl, fun w => by go_simp⟩) ?_
          simp only [Act.put, List.setIfInBounds_toArray, List.set_cons_zero, List.set_cons_succ]
          refine wpAny_take (i := 2) (oi := ⟨some 50, .nilCheck (.tmp 49), 0, _, _, none⟩) (v := .pointer (some ⟨g, 0, none⟩)) rfl (by kernel_rfl) (by kernel_rfl) (by kernel_rfl) (fun _ _ _ h => h) (Or.inl ⟨by rfl, fun w => by go_simp⟩) ?_
          simp only [Act.put, List.setIfInBounds_toArray, List.set_cons_zero, List.set_cons_succ]
          refine wpAny_take (i := 3) (oi := ⟨some 51, .fieldAddr 85 (.tmp 50) 0, 0, _, _, none⟩) (v := .pointer (some ⟨g, 0, none⟩)) rfl (by kernel_rfl) (by kernel_rfl) (by kernel_rfl) (fun _ _ _ h => h) (Or.inl ⟨by rfl, fun w => by go_simp⟩) ?_
          simp only [Act.put, List.setIfInBounds_toArray, List.set_cons_zero, List.set_cons_succ]
          refine wpAny_take (i := 5) (oi := ⟨some 53, .move (.tmp 0), 76, _, _, none⟩) (v := .pointer (some ⟨g, 0, none⟩)) rfl (by kernel_rfl) (by kernel_rfl) (by kernel_rfl) (fun _ _ _ h => h) (Or.inl ⟨by rfl, fun w => by go_simp⟩) ?_
          simp only [Act.put, List.setIfInBounds_toArray, List.set_cons_zero, List.set_cons_succ]
          refine wpAny_take (i := 6) (oi := ⟨some 54, .nilCheck (.tmp 53), 0, _, _, none⟩) (v := .pointer (some ⟨g, 0, none⟩)) rfl (by kernel_rfl) (by kernel_rfl) (by kernel_rfl) (fun _ _ _ h => h) (Or.inl ⟨by rfl, fun w => by go_simp⟩) ?_
          simp only [Act.put, List.setIfInBounds_toArray, List.set_cons_zero, List.set_cons_succ]
          refine wpAny_take (i := 7) (oi := ⟨some 55, .fieldAddr 85 (.tmp 54) 1, 0, _, _, none⟩) (v := .pointer (some ⟨g, 8, none⟩)) rfl (by kernel_rfl) (by kernel_rfl) (by kernel_rfl) (fun _ _ _ h => h) (Or.inl ⟨by rfl, fun w => by go_simp⟩) ?_
          simp only [Act.put, List.setIfInBounds_toArray, List.set_cons_zero, List.set_cons_succ]
          have RA := hideIt (st_rangeW hm3'.drew)
          have RB := hideIt (st_rangeB hm3'.drew)
          have KA := hideIt (st_K hm3'.drew hg HK.out)
          refine wpAny_ready (rs := [4, 8]) (by kernel_rfl) (by simp) (AllReady.cons (o := ⟨some 52, .load 62 (.tmp 51), 62, _, _, none⟩) rfl (fun K hK => ?_) (AllReady.cons (o := ⟨some 56, .load 83 (.tmp 55), 83, _, _, none⟩) rfl (fun K hK => ?_) AllReady.nil))
          · rw [if_pos (by rfl)]
            refine wp_load_as 62 (.tmp 51) rfl g 0 rfl (Sha.wordsL 8 h1) (Sha.wordsA 8 h1) rfl _ RA.out Tryd.underlying62 rfl (info39L _) ?_
            refine hK _ _ ?_
            clear hK K
            simp only [Act.put, List.setIfInBounds_toArray, List.set_cons_zero, List.set_cons_succ]
            refine wpAny_ready (rs := [8]) (by kernel_rfl) (by simp) (AllReady.cons (o := ⟨some 56, .load 83 (.tmp 55), 83, _, _, none⟩) rfl (fun K hK => ?_) AllReady.nil)
            rw [if_pos (by rfl)]
            refine wp_load_as 83 (.tmp 55) rfl g 8 rfl (Sha.bytesL 64 b2) (Sha.bytesA 64 b2) rfl _ RB.out Tryd.underlying83 rfl (info43L _) ?_
            refine hK _ _ ?_
            clear hK K
            simp only [Act.put, List.setIfInBounds_toArray, List.set_cons_zero, List.set_cons_succ]
            refine wpAny_ready (rs := [9]) (by kernel_rfl) (by simp) (AllReady.cons (o := ⟨some 57, .call { callee := .value (.func 51), args := #[.tmp 52, .tmp 56], argTypes := #[62, 83] }, 62, _, _, none⟩) rfl (fun K hK => ?_) AllReady.nil)
            go_simp
            refine (mixed_any h1 b2 _ KA.out).mono ?_
            rintro e w4 ⟨rfl, hb4⟩
            refine hK _ _ ?_
            clear hK K
            refine wpAny_take (i := 10) (oi := ⟨some 58, .nilCheck (.tmp 48), 0, _, _, none⟩) (v := .pointer (some ⟨g, 0, none⟩)) rfl (by kernel_rfl) (by kernel_rfl) (by kernel_rfl) (fun _ _ _ h => h) (Or.inl ⟨by rfl, fun w => by go_simp⟩) ?_
            simp only [Act.put, List.setIfInBounds_toArray, List.set_cons_zero, List.set_cons_succ]
            refine wpAny_take (i := 11) (oi := ⟨some 59, .fieldAddr 85 (.tmp 58) 0, 0, _, _, none⟩) (v := .pointer (some ⟨g, 0, none⟩)) rfl (by kernel_rfl) (by kernel_rfl) (by kernel_rfl) (fun _ _ _ h => h) (Or.inl ⟨by rfl, fun w => by go_simp⟩) ?_
            simp only [Act.put, List.setIfInBounds_toArray, List.set_cons_zero, List.set_cons_succ]
            refine wpAny_ready (rs := [12]) (by kernel_rfl) (by simp) (AllReady.cons (o := ⟨none, .store 62 (.tmp 59) (.tmp 57), 0, _, _, none⟩) rfl (fun K hK => ?_) AllReady.nil)
            rw [if_pos (by rfl)]
            refine wp_store_mid 62 (.tmp 59) (.tmp 57) rfl g 0 (Sha.wordsA 8 (Sha.mix h1 b2)) rfl rfl (st_there hm3'.drew hb4) (info39 _) (words_all _ _) ?_
            refine hK _ _ ?_
            clear hK K
            simp only [Act.put]
            refine wpAny_done (by kernel_rfl) ?_ _
            have hm5' := hideIt (st_words hm3'.drew hb4 (Sha.mix h1 b2))
            go_wp2
            go_roundw
            case rel =>
              refine wr_next HDR.out HQ.out (by omega) hm5'.out ?_
              have hl : (M ++ dn).length = q := by rw [List.length_append, HN.out, HQ.out]
              have := hrep.full (l := s.data.toList.take m) (by rw [hl, List.length_take, show s.data.toList.length = s.size from by rw [Array.length_toList]; rfl]; have := HF.out; have := HRQ.out; omega)
              rw [hl, ← HRQ.out, HB.out] at this
              exact this
            case measure => simp [slen]; omega
          · rw [if_pos (by rfl)]
            refine wp_load_as 83 (.tmp 55) rfl g 8 rfl (Sha.bytesL 64 b2) (Sha.bytesA 64 b2) rfl _ RB.out Tryd.underlying83 rfl (info43L _) ?_
            refine hK _ _ ?_
            clear hK K
            simp only [Act.put, List.setIfInBounds_toArray, List.set_cons_zero, List.set_cons_succ]
            refine wpAny_ready (rs := [4]) (by kernel_rfl) (by simp) (AllReady.cons (o := ⟨some 52, .load 62 (.tmp 51), 62, _, _, none⟩) rfl (fun K hK => ?_) AllReady.nil)
            rw [if_pos (by rfl)]
            refine wp_load_as 62 (.tmp 51) rfl g 0 rfl (Sha.wordsL 8 h1) (Sha.wordsA 8 h1) rfl _ RA.out Tryd.underlying62 rfl (info39L _) ?_
            refine hK _ _ ?_
            clear hK K
            simp only [Act.put, List.setIfInBounds_toArray, List.set_cons_zero, List.set_cons_succ]
            refine wpAny_ready (rs := [9]) (by kernel_rfl) (by simp) (AllReady.cons (o := ⟨some 57, .call { callee := .value (.func 51), args := #[.tmp 52, .tmp 56], argTypes := #[62, 83] }, 62, _, _, none⟩) rfl (fun K hK => ?_) AllReady.nil)
            go_simp
            refine (mixed_any h1 b2 _ KA.out).mono ?_
            rintro e w4 ⟨rfl, hb4⟩
            refine hK _ _ ?_
            clear hK K
            refine wpAny_take (i := 10) (oi := ⟨some 58, .nilCheck (.tmp 48), 0, _, _, none⟩) (v := .pointer (some ⟨g, 0, none⟩)) rfl (by kernel_rfl) (by kernel_rfl) (by kernel_rfl) (fun _ _ _ h => h) (Or.inl ⟨by rfl, fun w => by go_simp⟩) ?_
            simp only [Act.put, List.setIfInBounds_toArray, List.set_cons_zero, List.set_cons_succ]
            refine wpAny_take (i := 11) (oi := ⟨some 59, .fieldAddr 85 (.tmp 58) 0, 0, _, _, none⟩) (v := .pointer (some ⟨g, 0, none⟩)) rfl (by kernel_rfl) (by kernel_rfl) (by kernel_rfl) (fun _ _ _ h => h) (Or.inl ⟨by rfl, fun w => by go_simp⟩) ?_
            simp only [Act.put, List.setIfInBounds_toArray, List.set_cons_zero, List.set_cons_succ]
            refine wpAny_ready (rs := [12]) (by kernel_rfl) (by simp) (AllReady.cons (o := ⟨none, .store 62 (.tmp 59) (.tmp 57), 0, _, _, none⟩) rfl (fun K hK => ?_) AllReady.nil)
            rw [if_pos (by rfl)]
            refine wp_store_mid 62 (.tmp 59) (.tmp 57) rfl g 0 (Sha.wordsA 8 (Sha.mix h1 b2)) rfl rfl (st_there hm3'.drew hb4) (info39 _) (words_all _ _) ?_
            refine hK _ _ ?_
            clear hK K
            simp only [Act.put]
            refine wpAny_done (by kernel_rfl) ?_ _
            have hm5' := hideIt (st_words hm3'.drew hb4 (Sha.mix h1 b2))
            go_wp2
            go_roundw
            case rel =>
              refine wr_next HDR.out HQ.out (by omega) hm5'.out ?_
              have hl : (M ++ dn).length = q := by rw [List.length_append, HN.out, HQ.out]
              have := hrep.full (l := s.data.toList.take m) (by rw [hl, List.length_take, show s.data.toList.length = s.size from by rw [Array.length_toList]; rfl]; have := HF.out; have := HRQ.out; omega)
              rw [hl, ← HRQ.out, HB.out] at this
              exact this
            case measure => simp [slen]; omega
        · have hb : (((q : Int) + (m : Int)) % 64 == 0) = false := by simp; omega
          have HF := hideIt hfull
          clear hfull
          go_wp2
          go_roundw
          case rel =>
            refine wr_next HDR.out HQ.out (by omega) (hm2'.len m) ?_
            have hl : (M ++ dn).length = q := by rw [List.length_append, HN.out, HQ.out]
            have := hrep.part (l := s.data.toList.take m) (by rw [hl, List.length_take, show s.data.toList.length = s.size from by rw [Array.length_toList]; rfl]; have := HF.out; have := HRQ.out; omega)
            rw [hl, ← HRQ.out, HB.out] at this
            exact this
          case measure => simp [slen]; omega
      · have hs0 : ¬ (0 : Int) < (s.size : Int) := by omega
        have hnil : s.data.toList = [] := List.eq_nil_of_length_eq_zero (by omega)
        have hdt : dn = t := by rw [hnil, List.append_nil] at hdr; exact hdr
        have HD := hideIt hdt
        clear hdt hnil hdr hsl hq HS hsz
        go_wp2
        go_end0
        refine ⟨rfl, h1, b1, ?_, ?_⟩
        · rw [HN.out, ← HD.out, HQ.out]; exact hm
        · rw [← HD.out]; exact hrep
  · have h0 : ((n : Int) == 0) = false := by simp; omega
    have HS : wr_rel g n M t w (.string ⟨t.toArray⟩) w := by
      have hM : M ≠ [] := by intro e; rw [e] at hn; simp at hn; omega
      exact ⟨[], ⟨t.toArray⟩, h, b, rfl, rfl, ⟨But.refl _ _, by rw [HR.out, hn]; rfl⟩, by rw [List.append_nil]; exact HP.out hM⟩
    clear hn hn0
    go_enter Tryd.func43, Tryd.ntmps43
    go_wp2
    go_loopw [1] (fun v w' => wr_rel g n M t w v w') (fun v _ => slen v)
    case atStart => exact HS
    case round =>
      obtain ⟨dn, s, h1, b1, hdr, rfl, hm, hrep⟩ := hrel
      have hsl : s.data.toList.length = s.size := by rw [Array.length_toList]; rfl
      obtain ⟨q, hq⟩ : ∃ q, n + dn.length = q := ⟨_, rfl⟩
      rw [hq] at hm
      have cq : wr.cell? ⟨g, 72, none⟩ = some (.int .u64 (q : Int)) := by rw [cell_of_row _ _ 72 _ _ _ hm.row, Sha.stA_at]; rfl
      have hql : (q : Int) < 1000000000 := by have e := congrArg List.length hdr; have := HN.out; rw [List.length_append] at e; omega
      have HQ := hideIt hq
      have HDR := hideIt hdr
      by_cases hlt : 0 < s.size
      · have hl0 : (0 : Int) < (s.size : Int) := by omega
        have hl1 : (s.size : Int) < 1000000000 := by have e := congrArg List.length hdr; rw [List.length_append] at e; omega
        obtain ⟨r, hr⟩ : ∃ r, r = q % 64 := ⟨_, rfl⟩
        have r1 : (q : Int) % 64 = (r : Int) := by omega
        have r0 : (q : Int).tmod 64 = (r : Int) := by rw [Int.tmod_eq_emod_of_nonneg (by omega)]; exact r1
        have r2 : (r : Int) < 64 := by omega
        have r3 : (0 : Int) ≤ (r : Int) := by omega
        have r4 : (r : Int) ≤ 64 := by omega
        have r5 : r ≤ 64 := by omega
        have r6 : ¬ 64 = r := by omega
        obtain ⟨m, hm1⟩ : ∃ m, m = min s.size (64 - r) := ⟨_, rfl⟩
        have hm2 : m ≤ s.size := by omega
        have hm3 : r + m ≤ 64 := by omega
        have hm4 : 0 < m := by omega
        have hm5 : m < s.size → r + m = 64 := by omega
        have HM1 := hideIt hm1
        have HM5 := hideIt hm5
        clear hm1 hm5
        have HRQ := hideIt hr
        clear hsl hq hdr hsz HS hr
        go_wp2
        go_region_held3 (fun w' => w'.cell? ⟨g, 72, none⟩ = some (.int .u64 (q : Int))) (first | (go_keep; done) | (exact copy_keep hm.row))
          ((refine step_copy_str (by rfl) (.tmp 27) (.tmp 28) 60 9 (by rfl) 5 Tryd.underlying60 (by kernel_rfl) g (8 + r) (64 - r) (64 - r) (by rfl) s (by rfl) (Sha.stL h1 b1 q) 85 (by exact hm.row) m (by exact HM1.out) (by rw [Sha.stL_len]; omega) ?_; rw [Sha.stL_bytes _ _ _ _ _ (by rw [List.length_take]; omega)]))
        obtain ⟨b2, hb2⟩ : ∃ b2, Sha.over b1 r (List.take m s.data.toList) = b2 := ⟨_, rfl⟩
        obtain ⟨w2, hw2⟩ : ∃ w2, wr.drew.setRow g (Sha.stL h1 (Sha.over b1 r (List.take m s.data.toList)) q).toArray = w2 := ⟨_, rfl⟩
        rw [hw2]
        have hm2' : StMem g q h1 b2 w w2 := by
          rw [← hw2, ← hb2]
          exact ⟨(hm.but.drew).setRow _, setRow_heap wr.drew _ _ _ _ _ (show wr.drew.heap[g]? = _ from hm.row)⟩
        have HB := hideIt hb2
        clear hw2 hb2 cq hm
        have cq : w2.cell? ⟨g, 72, none⟩ = some (.int .u64 (q : Int)) := by rw [cell_of_row _ _ 72 _ _ _ hm2'.row, Sha.stA_at]; rfl
        have fq : w2.frozen? ⟨g, 72, none⟩ = false := by simp [World.frozen?, hm2'.row]
        have hmI : (m : Int) ≤ (s.size : Int) := by omega
        have hm0 : (0 : Int) ≤ (m : Int) := by omega
        by_cases hfull : (q + m) % 64 = 0
        · have hb : (((q : Int) + (m : Int)) % 64 == 0) = true := by simp; omega
          have HF := hideIt hfull
          clear hfull
          go_wp2
          obtain ⟨w3, hw3⟩ : ∃ w3, w2.setCell ⟨g, 72, none⟩ (.int .u64 ((q : Int) + (m : Int))) = w3 := ⟨_, rfl⟩
          rw [hw3]
          have hm3' : StMem g (q + m) h1 b2 w w3 := by rw [← hw3]; exact hm2'.len m
          clear hw3 hm2' cq fq
          refine wp_region_any (by kernel_rfl) ?_
          change wpAny _ _ _ _ _ _ _ (World.drew _)
          refine wpAny_take (i := 0) (oi := ⟨some 48, .move (.tmp 0), 76, _, _, none⟩) (v := .pointer (some ⟨g, 0, none⟩)) rfl (by kernel_rfl) (by kernel_rfl) (by kernel_rfl) (fun _ _ _ h => h) (Or.inl ⟨by rfl, fun w => by go_simp⟩) ?_
          simp only [Act.put, List.setIfInBounds_toArray, List.set_cons_zero, List.set_cons_succ]
          refine wpAny_take (i := 1) (oi := ⟨some 49, .move (.tmp 0), 76, _, _, none⟩) (v := .pointer (some ⟨g, 0, none⟩)) rfl (by kernel_rfl) (by kernel_rfl) (by kernel_rfl) (fun _ _ _ h => h) (Or.inl ⟨by rfl, fun w => by go_simp⟩) ?_
          simp only [Act.put, List.setIfInBounds_toArray, List.set_cons_zero, List.set_cons_succ]
          refine wpAny_take (i := 2) (oi := ⟨some 50, .nilCheck (.tmp 49), 0, _, _, none⟩) (v := .pointer (some ⟨g, 0, none⟩)) rfl (by kernel_rfl) (by kernel_rfl) (by kernel_rfl) (fun _ _ _ h => h) (Or.inl ⟨by rfl, fun w => by go_simp⟩) ?_
          simp only [Act.put, List.setIfInBounds_toArray, List.set_cons_zero, List.set_cons_succ]
          refine wpAny_take (i := 3) (oi := ⟨some 51, .fieldAddr 85 (.tmp 50) 0, 0, _, _, none⟩) (v := .pointer (some ⟨g, 0, none⟩)) rfl (by kernel_rfl) (by kernel_rfl) (by kernel_rfl) (fun _ _ _ h => h) (Or.inl ⟨by rfl, fun w => by go_simp⟩) ?_
          simp only [Act.put, List.setIfInBounds_toArray, List.set_cons_zero, List.set_cons_succ]
          refine wpAny_take (i := 5) (oi := ⟨some 53, .move (.tmp 0), 76, _, _, none⟩) (v := .pointer (some ⟨g, 0, none⟩)) rfl (by kernel_rfl) (by kernel_rfl) (by kernel_rfl) (fun _ _ _ h => h) (Or.inl ⟨by rfl, fun w => by go_simp⟩) ?_
          simp only [Act.put, List.setIfInBounds_toArray, List.set_cons_zero, List.set_cons_succ]
          refine wpAny_take (i := 6) (oi := ⟨some 54, .nilCheck (.tmp 53), 0, _, _, none⟩) (v := .pointer (some ⟨g, 0, none⟩)) rfl (by kernel_rfl) (by kernel_rfl) (by kernel_rfl) (fun _ _ _ h => h) (Or.inl ⟨by rfl, fun w => by go_simp⟩) ?_
          simp only [Act.put, List.setIfInBounds_toArray, List.set_cons_zero, List.set_cons_succ]
          refine wpAny_take (i := 7) (oi := ⟨some 55, .fieldAddr 85 (.tmp 54) 1, 0, _, _, none⟩) (v := .pointer (some ⟨g, 8, none⟩)) rfl (by kernel_rfl) (by kernel_rfl) (by kernel_rfl) (fun _ _ _ h => h) (Or.inl ⟨by rfl, fun w => by go_simp⟩) ?_
          simp only [Act.put, List.setIfInBounds_toArray, List.set_cons_zero, List.set_cons_succ]
          have RA := hideIt (st_rangeW hm3'.drew)
          have RB := hideIt (st_rangeB hm3'.drew)
          have KA := hideIt (st_K hm3'.drew hg HK.out)
          refine wpAny_ready (rs := [4, 8]) (by kernel_rfl) (by simp) (AllReady.cons (o := ⟨some 52, .load 62 (.tmp 51), 62, _, _, none⟩) rfl (fun K hK => ?_) (AllReady.cons (o := ⟨some 56, .load 83 (.tmp 55), 83, _, _, none⟩) rfl (fun K hK => ?_) AllReady.nil))
          · rw [if_pos (by rfl)]
            refine wp_load_as 62 (.tmp 51) rfl g 0 rfl (Sha.wordsL 8 h1) (Sha.wordsA 8 h1) rfl _ RA.out Tryd.underlying62 rfl (info39L _) ?_
            refine hK _ _ ?_
            clear hK K
            simp only [Act.put, List.setIfInBounds_toArray, List.set_cons_zero, List.set_cons_succ]
            refine wpAny_ready (rs := [8]) (by kernel_rfl) (by simp) (AllReady.cons (o := ⟨some 56, .load 83 (.tmp 55), 83, _, _, none⟩) rfl (fun K hK => ?_) AllReady.nil)
            rw [if_pos (by rfl)]
            refine wp_load_as 83 (.tmp 55) rfl g 8 rfl (Sha.bytesL 64 b2) (Sha.bytesA 64 b2) rfl _ RB.out Tryd.underlying83 rfl (info43L _) ?_
            refine hK _ _ ?_
            clear hK K
            simp only [Act.put, List.setIfInBounds_toArray, List.set_cons_zero, List.set_cons_succ]
            refine wpAny_ready (rs := [9]) (by kernel_rfl) (by simp) (AllReady.cons (o := ⟨some 57, .call { callee := .value (.func 51), args := #[.tmp 52, .tmp 56], argTypes := #[62, 83] }, 62, _, _, none⟩) rfl (fun K hK => ?_) AllReady.nil)
            go_simp
            refine (mixed_any h1 b2 _ KA.out).mono ?_
            rintro e w4 ⟨rfl, hb4⟩
            refine hK _ _ ?_
            clear hK K
            refine wpAny_take (i := 10) (oi := ⟨some 58, .nilCheck (.tmp 48), 0, _, _, none⟩) (v := .pointer (some ⟨g, 0, none⟩)) rfl (by kernel_rfl) (by kernel_rfl) (by kernel_rfl) (fun _ _ _ h => h) (Or.inl ⟨by rfl, fun w => by go_simp⟩) ?_
            simp only [Act.put, List.setIfInBounds_toArray, List.set_cons_zero, List.set_cons_succ]
            refine wpAny_take (i := 11) (oi := ⟨some 59, .fieldAddr 85 (.tmp 58) 0, 0, _, _, none⟩) (v := .pointer (some ⟨g, 0, none⟩)) rfl (by kernel_rfl) (by kernel_rfl) (by kernel_rfl) (fun _ _ _ h => h) (Or.inl ⟨by rfl, fun w => by go_simp⟩) ?_
            simp only [Act.put, List.setIfInBounds_toArray, List.set_cons_zero, List.set_cons_succ]
            refine wpAny_ready (rs := [12]) (by kernel_rfl) (by simp) (AllReady.cons (o := ⟨none, .store 62 (.tmp 59) (.tmp 57), 0, _, _, none⟩) rfl (fun K hK => ?_) AllReady.nil)
            rw [if_pos (by rfl)]
            refine wp_store_mid 62 (.tmp 59) (.tmp 57) rfl g 0 (Sha.wordsA 8 (Sha.mix h1 b2)) rfl rfl (st_there hm3'.drew hb4) (info39 _) (words_all _ _) ?_
            refine hK _ _ ?_
            clear hK K
            simp only [Act.put]
            refine wpAny_done (by kernel_rfl) ?_ _
            have hm5' := hideIt (st_words hm3'.drew hb4 (Sha.mix h1 b2))
            go_wp2
            go_roundw
            case rel =>
              refine wr_next HDR.out HQ.out (by omega) hm5'.out ?_
              have hl : (M ++ dn).length = q := by rw [List.length_append, HN.out, HQ.out]
              have := hrep.full (l := s.data.toList.take m) (by rw [hl, List.length_take, show s.data.toList.length = s.size from by rw [Array.length_toList]; rfl]; have := HF.out; have := HRQ.out; omega)
              rw [hl, ← HRQ.out, HB.out] at this
              exact this
            case measure => simp [slen]; omega
          · rw [if_pos (by rfl)]
            refine wp_load_as 83 (.tmp 55) rfl g 8 rfl (Sha.bytesL 64 b2) (Sha.bytesA 64 b2) rfl _ RB.out Tryd.underlying83 rfl (info43L _) ?_
            refine hK _ _ ?_
            clear hK K
            simp only [Act.put, List.setIfInBounds_toArray, List.set_cons_zero, List.set_cons_succ]
            refine wpAny_ready (rs := [4]) (by kernel_rfl) (by simp) (AllReady.cons (o := ⟨some 52, .load 62 (.tmp 51), 62, _, _, none⟩) rfl (fun K hK => ?_) AllReady.nil)
            rw [if_pos (by rfl)]
            refine wp_load_as 62 (.tmp 51) rfl g 0 rfl (Sha.wordsL 8 h1) (Sha.wordsA 8 h1) rfl _ RA.out Tryd.underlying62 rfl (info39L _) ?_
            refine hK _ _ ?_
            clear hK K
            simp only [Act.put, List.setIfInBounds_toArray, List.set_cons_zero, List.set_cons_succ]
            refine wpAny_ready (rs := [9]) (by kernel_rfl) (by simp) (AllReady.cons (o := ⟨some 57, .call { callee := .value (.func 51), args := #[.tmp 52, .tmp 56], argTypes := #[62, 83] }, 62, _, _, none⟩) rfl (fun K hK => ?_) AllReady.nil)
            go_simp
            refine (mixed_any h1 b2 _ KA.out).mono ?_
            rintro e w4 ⟨rfl, hb4⟩
            refine hK _ _ ?_
            clear hK K
            refine wpAny_take (i := 10) (oi := ⟨some 58, .nilCheck (.tmp 48), 0, _, _, none⟩) (v := .pointer (some ⟨g, 0, none⟩)) rfl (by kernel_rfl) (by kernel_rfl) (by kernel_rfl) (fun _ _ _ h => h) (Or.inl ⟨by rfl, fun w => by go_simp⟩) ?_
            simp only [Act.put, List.setIfInBounds_toArray, List.set_cons_zero, List.set_cons_succ]
            refine wpAny_take (i := 11) (oi := ⟨some 59, .fieldAddr 85 (.tmp 58) 0, 0, _, _, none⟩) (v := .pointer (some ⟨g, 0, none⟩)) rfl (by kernel_rfl) (by kernel_rfl) (by kernel_rfl) (fun _ _ _ h => h) (Or.inl ⟨by rfl, fun w => by go_simp⟩) ?_
            simp only [Act.put, List.setIfInBounds_toArray, List.set_cons_zero, List.set_cons_succ]
            refine wpAny_ready (rs := [12]) (by kernel_rfl) (by simp) (AllReady.cons (o := ⟨none, .store 62 (.tmp 59) (.tmp 57), 0, _, _, none⟩) rfl (fun K hK => ?_) AllReady.nil)
            rw [if_pos (by rfl)]
            refine wp_store_mid 62 (.tmp 59) (.tmp 57) rfl g 0 (Sha.wordsA 8 (Sha.mix h1 b2)) rfl rfl (st_there hm3'.drew hb4) (info39 _) (words_all _ _) ?_
            refine hK _ _ ?_
            clear hK K
            simp only [Act.put]
            refine wpAny_done (by kernel_rfl) ?_ _
            have hm5' := hideIt (st_words hm3'.drew hb4 (Sha.mix h1 b2))
            go_wp2
            go_roundw
            case rel =>
              refine wr_next HDR.out HQ.out (by omega) hm5'.out ?_
              have hl : (M ++ dn).length = q := by rw [List.length_append, HN.out, HQ.out]
              have := hrep.full (l := s.data.toList.take m) (by rw [hl, List.length_take, show s.data.toList.length = s.size from by rw [Array.length_toList]; rfl]; have := HF.out; have := HRQ.out; omega)
              rw [hl, ← HRQ.out, HB.out] at this
              exact this
            case measure => simp [slen]; omega
        · have hb : (((q : Int) + (m : Int)) % 64 == 0) = false := by simp; omega
          have HF := hideIt hfull
          clear hfull
          go_wp2
          go_roundw
          case rel =>
            refine wr_next HDR.out HQ.out (by omega) (hm2'.len m) ?_
            have hl : (M ++ dn).length = q := by rw [List.length_append, HN.out, HQ.out]
            have := hrep.part (l := s.data.toList.take m) (by rw [hl, List.length_take, show s.data.toList.length = s.size from by rw [Array.length_toList]; rfl]; have := HF.out; have := HRQ.out; omega)
            rw [hl, ← HRQ.out, HB.out] at this
            exact this
          case measure => simp [slen]; omega
      · have hs0 : ¬ (0 : Int) < (s.size : Int) := by omega
        have hnil : s.data.toList = [] := List.eq_nil_of_length_eq_zero (by omega)
        have hdt : dn = t := by rw [hnil, List.append_nil] at hdr; exact hdr
        have HD := hideIt hdt
        clear hdt hnil hdr hsl hq HS hsz
        go_wp2
        go_end0
        refine ⟨rfl, h1, b1, ?_, ?_⟩
        · rw [HN.out, ← HD.out, HQ.out]; exact hm
        · rw [← HD.out]; exact hrep
end Go.Proofs.YtllpfpbpdgpnkaaDoor.Sa
