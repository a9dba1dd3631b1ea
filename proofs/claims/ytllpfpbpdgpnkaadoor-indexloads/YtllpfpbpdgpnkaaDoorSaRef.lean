/- The document's own sum, walked. -/
import Derived.Test.YtllpfpbpdgpnkaaDoorSaOf
namespace Go.Proofs.YtllpfpbpdgpnkaaDoor.Sa
open Go.RowKit
def zs (M : List UInt8) (j : Nat) : List UInt8 := M ++ 128 :: List.replicate j 0
def ref1 (M : List UInt8) (v : Value) : Prop := ∃ (j : Nat) (s : ByteArray), v = .string s ∧ s.data.toList = zs M j ∧ j ≤ Sha.noughts M.length
def lens (L i : Nat) : List UInt8 := (List.range i).map fun k => Sha.byteAt L (7 - k)
def ref2 (M : List UInt8) (w : World) (v t : Value) (w' : World) : Prop :=
  ∃ (i : Nat) (s : ByteArray), i ≤ 8 ∧ v = .string s ∧ t = .int .i64 i ∧ s.data.toList = zs M (Sha.noughts M.length) ++ lens M.length i ∧ Below w.heap.size w w'
theorem cat_data (a b : ByteArray) : (a ++ b).data.toList = a.data.toList ++ b.data.toList := by rw [ByteArray.data_append, Array.toList_append]
theorem zs_next (M : List UInt8) (j : Nat) : zs M j ++ (#[0] : Array UInt8).toList = zs M (j + 1) := by
  have e : (#[0] : Array UInt8).toList = [0] := rfl
  rw [e, zs, zs, List.append_assoc, List.cons_append, List.replicate_succ', List.append_cancel_left_eq]
theorem run_one (u : UInt8) (W : World) : (convert 60 9 (.slice (some ⟨W.heap.size, 0, none⟩) 1 1)).run Tryd.prog (W.alloc (.cells #[.int .u8 (u.toNat : Int)] 5)) = .ok (.string ⟨#[u]⟩) (W.alloc (.cells #[.int .u8 (u.toNat : Int)] 5)) := by
  have h := run_str 1 (fun _ => u) (W.alloc (.cells #[.int .u8 (u.toNat : Int)] 5)) W.heap.size (alloc_at rfl)
  exact h
theorem lens_next (L i : Nat) : lens L (i + 1) = lens L i ++ (#[Sha.byteAt L (7 - i)] : Array UInt8).toList := by
  simp [lens, List.range_succ]
theorem padF_at (L q k : Nat) (hk : k < q + 9) : Sha.padF L (q + 9) 8 k = if k = 0 then 128 else if k ≤ q then 0 else Sha.byteAt L (q + 8 - k) := by
  simp only [Sha.padF, Sha.up]
  by_cases h0 : k ≤ q
  · have e : ∀ i, i < 8 → ¬ k = q + 9 - 1 - i := by intro i hi; omega
    simp only [e 0 (by omega), e 1 (by omega), e 2 (by omega), e 3 (by omega), e 4 (by omega), e 5 (by omega), e 6 (by omega), e 7 (by omega), h0, if_true, if_false]
  · have h1 : ¬ k = 0 := by omega
    simp only [h0, h1, if_false]
    obtain ⟨i, hi, rfl⟩ : ∃ i, i < 8 ∧ k = q + 8 - i := ⟨q + 8 - k, by omega, by omega⟩
    have e2 : q + 8 - (q + 8 - i) = i := by omega
    rw [e2]
    have e3 : ∀ j, j < 8 → (q + 8 - i = q + 9 - 1 - j ↔ i = j) := by intro j hj; omega
    simp only [e3 0 (by omega), e3 1 (by omega), e3 2 (by omega), e3 3 (by omega), e3 4 (by omega), e3 5 (by omega), e3 6 (by omega), e3 7 (by omega)]
    rcases (show i = 0 ∨ i = 1 ∨ i = 2 ∨ i = 3 ∨ i = 4 ∨ i = 5 ∨ i = 6 ∨ i = 7 by omega) with rfl | rfl | rfl | rfl | rfl | rfl | rfl | rfl <;> rfl
theorem ref_pad (M : List UInt8) : zs M (Sha.noughts M.length) ++ lens M.length 8 = M ++ Sha.padL M.length := by
  rw [zs, List.append_assoc, List.append_cancel_left_eq]
  obtain ⟨q, hq⟩ : ∃ q, Sha.noughts M.length = q := ⟨_, rfl⟩
  obtain ⟨L, hL⟩ : ∃ L, M.length = L := ⟨_, rfl⟩
  rw [Sha.padL, Sha.pad, Sha.bstr, hq, hL, List.cons_append]
  apply List.ext_getElem?
  intro k
  by_cases hk : k < q + 9
  · have e : (List.map (Sha.padF L (q + 9) 8) (List.range (q + 9)))[k]? = some (Sha.padF L (q + 9) 8 k) := by simp [hk]
    rw [List.toList_toArray, e, padF_at L q k hk]
    by_cases h0 : k = 0
    · subst h0; simp
    · obtain ⟨k', rfl⟩ : ∃ k', k = k' + 1 := ⟨k - 1, by omega⟩
      rw [List.getElem?_cons_succ, if_neg h0]
      by_cases h1 : k' < q
      · rw [List.getElem?_append_left (by simpa using h1), if_pos (by omega)]
        simp [h1]
      · rw [List.getElem?_append_right (by simp; omega), if_neg (by omega)]
        simp only [List.length_replicate, lens]
        rw [List.getElem?_map, List.getElem?_range (by omega)]
        simp only [Option.map_some]
        congr 2
        omega
  · rw [List.getElem?_eq_none (by simp [lens]; omega), List.getElem?_eq_none (by simp; omega)]
theorem padded_mod (M : List UInt8) : (M ++ Sha.padL M.length).length % 64 = 0 := by
  rw [List.length_append, padL_len, Sha.noughts]; omega
structure RefMem (N g5 g6 : Nat) (hh : Nat → BitVec 32) (w0 w : World) : Prop where
  below : Below N w0 w
  le : N ≤ g5
  lt : g5 < g6
  lt2 : g6 < w.heap.size
  h : w.heap[g5]? = some (.cells (Sha.wordsA 8 hh) 62 (0, 0))
  k : w.heap[g6]? = some (.cells (Sha.wordsA 64 Sha.salt) 63 (0, 0))
theorem ref_start {w wr w2 : World} (hb1 : Below w.heap.size w wr) (z y : Array Value) (hb2 : Below ((wr.alloc (.cells z 62)).setRow wr.heap.size (Sha.wordsA 8 Sha.init)).heap.size ((wr.alloc (.cells z 62)).setRow wr.heap.size (Sha.wordsA 8 Sha.init)) w2) :
    RefMem w.heap.size wr.heap.size w2.heap.size Sha.init w ((w2.alloc (.cells y 63)).setRow w2.heap.size (Sha.wordsA 64 Sha.salt)) := by
  have h1 := hb1.size
  have h2 := hb2.size
  have e : ((wr.alloc (.cells z 62)).setRow wr.heap.size (Sha.wordsA 8 Sha.init)).heap.size = wr.heap.size + 1 := by simp
  rw [e] at hb2 h2
  have hA : Below w.heap.size w ((wr.alloc (.cells z 62)).setRow wr.heap.size (Sha.wordsA 8 Sha.init)) := below_setRow (hb1.alloc h1 _) h1 _
  have hB : Below w.heap.size w w2 := hA.trans (hb2.mono (by omega))
  refine ⟨below_setRow (hB.alloc (by omega) _) (by omega) _, h1, by omega, by simp, ?_, setRow_heap _ _ _ _ _ _ (alloc_at rfl)⟩
  rw [setRow_other _ _ _ _ (by omega), Below.heap_alloc _ _ _ (by omega), hb2.block _ (by omega)]
  exact setRow_heap _ _ _ _ _ _ (alloc_at rfl)
def Sha.part (b : Nat → UInt8) (i : Nat) : Nat → BitVec 32 := fun k => if k < i / 4 then Sha.bePart b k 4 else if k = i / 4 then Sha.bePart b k (i % 4) else 0#32
theorem Sha.part_zero (b : Nat → UInt8) : Sha.part b 0 = fun _ => 0#32 := by
  funext k
  simp only [Sha.part]
  by_cases h : k = 0
  · subst h; simp [Sha.bePart]
  · simp [h]
theorem Sha.part_at (b : Nat → UInt8) (i : Nat) : Sha.part b i (i / 4) = Sha.bePart b (i / 4) (i % 4) := by simp [Sha.part]
theorem Sha.part_next (b : Nat → UInt8) (i : Nat) : Sha.up (Sha.part b i) (i / 4) (Sha.bePart b (i / 4) (i % 4 + 1)) = Sha.part b (i + 1) := by
  funext k
  simp only [Sha.up, Sha.part]
  by_cases h : i % 4 = 3
  · have e1 : (i + 1) / 4 = i / 4 + 1 := by omega
    have e2 : (i + 1) % 4 = 0 := by omega
    rw [e1, e2, h]
    by_cases h1 : k = i / 4
    · subst h1; simp
    · by_cases h2 : k < i / 4
      · simp [h1, h2, show k < i / 4 + 1 by omega]
      · simp only [h1, h2, if_false, show ¬ k < i / 4 + 1 by omega]
        by_cases h3 : k = i / 4 + 1
        · simp [h3, Sha.bePart]
        · simp [h3]
  · have e1 : (i + 1) / 4 = i / 4 := by omega
    have e2 : (i + 1) % 4 = i % 4 + 1 := by omega
    rw [e1, e2]
    by_cases h1 : k = i / 4
    · subst h1; simp
    · by_cases h2 : k < i / 4
      · simp [h1, h2]
      · simp [h1, h2]
theorem Sha.part_end (b : Nat → UInt8) : Sha.part b 64 = Sha.first b 16 := by
  funext k
  simp only [Sha.part, Sha.first]
  by_cases h : k < 16
  · simp [h]
  · by_cases h2 : k = 16
    · simp [h2, Sha.bePart]
    · simp [h, h2]
structure RefW (N g5 g6 g8 : Nat) (hh f : Nat → BitVec 32) (w0 w : World) : Prop where
  mem : RefMem N g5 g6 hh w0 w
  lt : g6 < g8
  row : w.heap[g8]? = some (.cells (Sha.wordsA 64 f) 63 (0, 0))
theorem ref_w {N g5 g6 : Nat} {hh : Nat → BitVec 32} {w0 w : World} (hm : RefMem N g5 g6 hh w0 w) (y : Array Value) {f : Nat → BitVec 32} : RefW N g5 g6 w.heap.size hh f w0 ((w.alloc (.cells y 63)).setRow w.heap.size (Sha.wordsA 64 f)) := by
  have := hm.le
  have := hm.lt
  have := hm.lt2
  refine ⟨⟨below_setRow (hm.below.alloc (by omega) _) (by omega) _, hm.le, hm.lt, by simp; omega, ?_, ?_⟩, hm.lt2, setRow_heap _ _ _ _ _ _ (alloc_at rfl)⟩
  · rw [setRow_other _ _ _ _ (by omega), Below.heap_alloc _ _ _ (by omega)]; exact hm.h
  · rw [setRow_other _ _ _ _ (by omega), Below.heap_alloc _ _ _ (by omega)]; exact hm.k
theorem RefW.put {N g5 g6 g8 : Nat} {hh f : Nat → BitVec 32} {w0 w : World} (hm : RefW N g5 g6 g8 hh f w0 w) (i : Nat) (v : BitVec 32) :
    RefW N g5 g6 g8 hh (Sha.up f i v) w0 (w.setCell ⟨g8, i, none⟩ (.int .u32 (v.toNat : Int))).drew := by
  have := hm.mem.le
  have := hm.mem.lt
  have := hm.lt
  refine ⟨⟨(hm.mem.below.setCell (p := ⟨g8, i, none⟩) (by simp; omega) _).drew, hm.mem.le, hm.mem.lt, by have := hm.mem.lt2; rw [heap_drew]; simpa using this, ?_, ?_⟩, hm.lt, ?_⟩
  · rw [heap_drew, row_other _ (by omega)]; exact hm.mem.h
  · rw [heap_drew, row_other _ (by omega)]; exact hm.mem.k
  · rw [heap_drew]; exact row_store v hm.row
theorem cell_apart2 {w : World} {g i o : Nat} {v u : Value} (h : w.cell? ⟨g, o, none⟩ = some u) (hne : i ≠ o) : (w.setCell ⟨g, i, none⟩ v).drew.drew.cell? ⟨g, o, none⟩ = some u := cell_apart h hne
theorem str_at (s : ByteArray) (k : Nat) (h : k < s.size) : s[k] = Sha.fn s.data.toList k := by
  have e : s.data.toList.length = s.size := str_len s
  rw [Sha.fn, List.getD, List.getElem?_eq_getElem (by omega)]
  rfl
theorem Sha.be_next2 (b : Nat → UInt8) (i j : Nat) (x : BitVec 32) (y : UInt8) (hx : x = Sha.bePart b i j) (hy : y = b (i * 4 + j)) :
    ((x.toNat : Int) * (256 : Int) + (y.toNat : Int)) % (4294967296 : Int) = ((Sha.bePart b i (j + 1)).toNat : Int) := by
  have e2 : (y.toNat : Int) = ((BitVec.ofNat 32 y.toNat).toNat : Int) := by
    rw [BitVec.toNat_ofNat]; have := y.toNat_lt; omega
  have e3 : (x <<< 8) + BitVec.ofNat 32 y.toNat = (x <<< 8) ||| BitVec.ofNat 32 y.toNat := by
    apply BitVec.add_eq_or_of_and_eq_zero
    apply BitVec.eq_of_getLsbD_eq
    intro k hk
    simp only [BitVec.getLsbD_and, BitVec.getLsbD_shiftLeft, BitVec.getLsbD_ofNat]
    by_cases h : k < 8
    · simp [h]
    · have : y.toNat.testBit k = false := Nat.testBit_lt_two_pow (Nat.lt_of_lt_of_le y.toNat_lt (Nat.pow_le_pow_right (by omega) (by omega : 8 ≤ k)))
      simp [this]
  rw [Sha.bePart, ← hx, ← hy, ← e3, BitVec.toNat_add, BitVec.toNat_shiftLeft, Nat.shiftLeft_eq, e2]
  have := (BitVec.ofNat 32 y.toNat).isLt
  omega
theorem ref_word (x16 x7 x15 x2 : BitVec 32) : IntKind.u32.wrap (IntKind.u32.wrap (IntKind.u32.wrap ((x16.toNat : Int) + (x7.toNat : Int)) + bits BinOp.xor IntKind.u32 (bits BinOp.xor IntKind.u32 ((Sha.rotr x15 7).toNat : Int) ((Sha.rotr x15 18).toNat : Int)) ((x15.toNat : Int) / (8 : Int))) + bits BinOp.xor IntKind.u32 (bits BinOp.xor IntKind.u32 ((Sha.rotr x2 17).toNat : Int) ((Sha.rotr x2 19).toNat : Int)) ((x2.toNat : Int) / (1024 : Int))) = ((x16 + x7 + Sha.ss0 x15 + Sha.ss1 x2).toNat : Int) := by
  rw [Sha.b_shr' x15 3 8, Sha.b_shr' x2 10 1024]
  simp only [Sha.b_xor, Sha.w_add]
  rfl
theorem RefW.drew {N g5 g6 g8 : Nat} {hh f : Nat → BitVec 32} {w0 w : World} (hm : RefW N g5 g6 g8 hh f w0 w) : RefW N g5 g6 g8 hh f w0 w.drew := ⟨⟨hm.mem.below.drew, hm.mem.le, hm.mem.lt, hm.mem.lt2, hm.mem.h, hm.mem.k⟩, hm.lt, hm.row⟩
structure RefV (N g5 g6 g8 g13 : Nat) (hh f v : Nat → BitVec 32) (w0 w : World) : Prop where
  mw : RefW N g5 g6 g8 hh f w0 w
  lt : g8 < g13
  row : w.heap[g13]? = some (.cells (Sha.wordsA 8 v) 62 (0, 0))
theorem ref_v {N g5 g6 g8 : Nat} {hh f : Nat → BitVec 32} {w0 w : World} (hm : RefW N g5 g6 g8 hh f w0 w) (y : Array Value) {v : Nat → BitVec 32} : RefV N g5 g6 g8 w.heap.size hh f v w0 ((w.alloc (.cells y 62)).setRow w.heap.size (Sha.wordsA 8 v)) := by
  have := hm.mem.le
  have := hm.mem.lt
  have := hm.mem.lt2
  have h8 : g8 < w.heap.size := (Array.getElem?_eq_some_iff.1 hm.row).1
  refine ⟨⟨⟨below_setRow (hm.mem.below.alloc (by omega) _) (by omega) _, hm.mem.le, hm.mem.lt, by simp; omega, ?_, ?_⟩, hm.lt, ?_⟩, h8, setRow_heap _ _ _ _ _ _ (alloc_at rfl)⟩
  · rw [setRow_other _ _ _ _ (by omega), Below.heap_alloc _ _ _ (by omega)]; exact hm.mem.h
  · rw [setRow_other _ _ _ _ (by omega), Below.heap_alloc _ _ _ (by omega)]; exact hm.mem.k
  · rw [setRow_other _ _ _ _ (by omega), Below.heap_alloc _ _ _ (by omega)]; exact hm.row
theorem ref_ch (x y z : BitVec 32) : (bits BinOp.and IntKind.u32 (x.toNat : Int) (y.toNat : Int) + bits BinOp.and IntKind.u32 ((4294967295 : Int) - (x.toNat : Int)) (z.toNat : Int)) % (4294967296 : Int) = ((Sha.ch x y z).toNat : Int) := by
  have e : (4294967295 : Int) - (x.toNat : Int) = ((~~~x).toNat : Int) := by
    rw [BitVec.toNat_not]; have := x.isLt; omega
  rw [e, Sha.b_and, Sha.b_and, Sha.b_add, Sha.ch]
  congr 2
  have e2 : (x &&& y) &&& (~~~x &&& z) = 0#32 := by
    apply BitVec.eq_of_getLsbD_eq
    intro i hi
    simp only [BitVec.getLsbD_and, BitVec.getLsbD_not]
    cases x.getLsbD i <;> simp
  rw [BitVec.add_eq_or_of_and_eq_zero _ _ e2]
  apply BitVec.eq_of_getLsbD_eq
  intro i hi
  simp only [BitVec.getLsbD_and, BitVec.getLsbD_not, BitVec.getLsbD_or, BitVec.getLsbD_xor]
  cases x.getLsbD i <;> simp
theorem ref_maj (x y z : BitVec 32) : bits BinOp.or IntKind.u32 (bits BinOp.or IntKind.u32 (bits BinOp.and IntKind.u32 (x.toNat : Int) (y.toNat : Int)) (bits BinOp.and IntKind.u32 (x.toNat : Int) (z.toNat : Int))) (bits BinOp.and IntKind.u32 (y.toNat : Int) (z.toNat : Int)) = ((Sha.maj x y z).toNat : Int) := by
  rw [Sha.b_and, Sha.b_and, Sha.b_and, Sha.b_or, Sha.b_or, Sha.maj]
  congr 2
  apply BitVec.eq_of_getLsbD_eq
  intro i hi
  simp only [BitVec.getLsbD_and, BitVec.getLsbD_or, BitVec.getLsbD_xor]
  cases x.getLsbD i <;> cases y.getLsbD i <;> cases z.getLsbD i <;> rfl
def arr8 (a b c d e f g h : BitVec 32) : Nat → BitVec 32 := fun n => if n = 0 then a else if n = 1 then b else if n = 2 then c else if n = 3 then d else if n = 4 then e else if n = 5 then f else if n = 6 then g else h
theorem lit8 (a b c d e f g h : BitVec 32) : Sha.wordsA 8 (arr8 a b c d e f g h) = #[.int .u32 (a.toNat : Int), .int .u32 (b.toNat : Int), .int .u32 (c.toNat : Int), .int .u32 (d.toNat : Int), .int .u32 (e.toNat : Int), .int .u32 (f.toNat : Int), .int .u32 (g.toNat : Int), .int .u32 (h.toNat : Int)] := rfl
def litR (d e : BitVec 32) (v : Nat → BitVec 32) : Array Value := #[.int .u32 (((d.toNat : Int) + (e.toNat : Int)) % 4294967296), .int .u32 ((v 0).toNat : Int), .int .u32 ((v 1).toNat : Int), .int .u32 ((v 2).toNat : Int), .int .u32 ((((v 3).toNat : Int) + (d.toNat : Int)) % 4294967296), .int .u32 ((v 4).toNat : Int), .int .u32 ((v 5).toNat : Int), .int .u32 ((v 6).toNat : Int)]
theorem infoR (d e : BitVec 32) (v : Nat → BitVec 32) : (Tryd.prog.info? 62).map (·.size) = some (litR d e v).size := by kernel_rfl
theorem sizeR (d e : BitVec 32) (v f : Nat → BitVec 32) : (Sha.wordsA 8 f).size = (litR d e v).size := by rw [Sha.wordsA_size]; rfl
theorem allR (d e : BitVec 32) (v : Nat → BitVec 32) : (litR d e v).all (·.oneCell') = true :=
  all_oneCell_toArray (by intro x hx; simp only [List.mem_cons, List.not_mem_nil, or_false] at hx; rcases hx with rfl | rfl | rfl | rfl | rfl | rfl | rfl | rfl <;> rfl)
theorem step_arr {k p : BitVec 32} {v : Nat → BitVec 32} {t t4 : BitVec 32} (h1 : Sha.top k p v = t) (h2 : v 3 + Sha.down k p v = t4) : Sha.wordsA 8 (Sha.step k p v) = Sha.wordsA 8 (arr8 t (v 0) (v 1) (v 2) t4 (v 4) (v 5) (v 6)) := by
  apply Sha.wordsA_congr
  intro n hn
  rw [Sha.step, h1, h2]
  rcases (show n = 0 ∨ n = 1 ∨ n = 2 ∨ n = 3 ∨ n = 4 ∨ n = 5 ∨ n = 6 ∨ n = 7 by omega) with rfl | rfl | rfl | rfl | rfl | rfl | rfl | rfl <;> rfl
theorem RefMem.alloc {N g5 g6 : Nat} {hh : Nat → BitVec 32} {w0 w : World} (hm : RefMem N g5 g6 hh w0 w) (o : Obj) : RefMem N g5 g6 hh w0 (w.alloc o) := by
  have := hm.le
  have := hm.lt
  have := hm.lt2
  refine ⟨hm.below.alloc (by omega) _, hm.le, hm.lt, by simp; omega, ?_, ?_⟩
  · rw [Below.heap_alloc _ _ _ (by omega)]; exact hm.h
  · rw [Below.heap_alloc _ _ _ (by omega)]; exact hm.k
theorem RefV.set {N g5 g6 g8 g13 : Nat} {hh f v u : Nat → BitVec 32} {x : Array Value} {w0 w : World} (hm : RefV N g5 g6 g8 g13 hh f v w0 w) (he : Sha.wordsA 8 u = x) : RefV N g5 g6 g8 g13 hh f u w0 (w.drew.drew.setRow g13 x) := by
  have := hm.mw.mem.le
  have := hm.mw.mem.lt
  have := hm.mw.lt
  have := hm.lt
  refine ⟨⟨⟨below_setRow hm.mw.mem.below.drew.drew (by omega) _, hm.mw.mem.le, hm.mw.mem.lt, by rw [setRow_size]; exact hm.mw.mem.lt2, ?_, ?_⟩, hm.mw.lt, ?_⟩, hm.lt, ?_⟩
  · rw [setRow_other _ _ _ _ (by omega)]; exact hm.mw.mem.h
  · rw [setRow_other _ _ _ _ (by omega)]; exact hm.mw.mem.k
  · rw [setRow_other _ _ _ _ (by omega)]; exact hm.mw.row
  · rw [he]; exact setRow_heap w.drew.drew _ _ _ _ _ hm.row
theorem RefV.add {N g5 g6 g8 g13 : Nat} {hh f v : Nat → BitVec 32} {w0 w : World} (hm : RefV N g5 g6 g8 g13 hh f v w0 w) (i : Nat) (x : BitVec 32) : RefV N g5 g6 g8 g13 (Sha.up hh i x) f v w0 (w.setCell ⟨g5, i, none⟩ (.int .u32 (x.toNat : Int))).drew := by
  have := hm.mw.mem.le
  have := hm.mw.mem.lt
  have := hm.mw.lt
  have := hm.lt
  refine ⟨⟨⟨(hm.mw.mem.below.setCell (p := ⟨g5, i, none⟩) (by simp; omega) _).drew, hm.mw.mem.le, hm.mw.mem.lt, by have := hm.mw.mem.lt2; rw [heap_drew]; simpa using this, ?_, ?_⟩, hm.mw.lt, ?_⟩, hm.lt, ?_⟩
  · rw [heap_drew]; exact row_store x hm.mw.mem.h
  · rw [heap_drew, row_other _ (by omega)]; exact hm.mw.mem.k
  · rw [heap_drew, row_other _ (by omega)]; exact hm.mw.row
  · rw [heap_drew, row_other _ (by omega)]; exact hm.row
set_option maxHeartbeats 4000000 in
set_option maxRecDepth 100000 in
theorem ref_any (s0 : ByteArray) (w : World) (hsz : s0.size < 100000000) :
    Calls Tryd.prog 14 #[.string s0] w fun e w' => e = .returned (.string (Sha.sha s0.data.toList)) ∧ Below w.heap.size w w' := by
  obtain ⟨M, hM⟩ : ∃ M, s0.data.toList = M := ⟨_, rfl⟩
  have HM := hideIt hM
  have hML : M.length = s0.size := by rw [← hM]; exact str_len s0
  have HML := hideIt hML
  rw [hM]
  clear hM hML
  go_enter Tryd.func14, Tryd.ntmps14
  go_wp2
  go_loop [0] (fun v => ref1 M v) (fun v => M.length + 100 - slen v)
  case atStart =>
    exact ⟨0, _, rfl, by rw [cat_data, HM.out]; rfl, Nat.zero_le _⟩
  case round =>
    obtain ⟨j, s, rfl, hs, hj⟩ := hrel
    have HS := hideIt hs
    have hsl := str_len s
    rw [hs] at hsl
    clear hs
    simp only [zs, List.length_append, List.length_cons, List.length_replicate] at hsl
    have HSL := hideIt hsl
    by_cases hlt : j < Sha.noughts M.length
    · have hl : ((s.size : Int) % 64 != 56) = true := by
        rw [bne_iff_ne]; unfold Sha.noughts at *; omega
      have hl2 : (s.size : Int) < 200000000 := by have := HML.out; unfold Sha.noughts at *; omega
      clear hsl
      go_wp2
      go_round
      case rel =>
        exact ⟨j + 1, _, rfl, by rw [cat_data, HS.out]; exact zs_next M j, by omega⟩
      case measure =>
        have e : (⟨#[0]⟩ : ByteArray).size = 1 := rfl
        simp only [slen, ByteArray.size_append, e]
        have := HSL.out; unfold Sha.noughts at *; omega
    · have hl : ((s.size : Int) % 64 != 56) = false := by
        rw [bne_eq_false_iff_eq]; unfold Sha.noughts at *; omega
      have hl2 : (s.size : Int) < 200000000 := by have := HML.out; unfold Sha.noughts at *; omega
      have hjq : j = Sha.noughts M.length := by omega
      have HJ := hideIt hjq
      clear hsl hjq hlt hj
      have hMs : (s0.size : Int) < 100000000 := by omega
      go_wp2
      go_loopw [0, 4] (fun v t w' => ref2 M w v t w') (fun _ t _ => 8 - (intOf t).toNat)
      case atStart => exact ⟨0, s, by omega, rfl, rfl, by rw [HS.out, HJ.out]; exact (List.append_nil _).symm, Below.refl _ _⟩
      case round =>
        obtain ⟨i, s1, hi, rfl, rfl, hs1, hb1⟩ := hrel
        have hs1l : (s1.size : Int) < 200000000 := by
          have e := str_len s1
          rw [hs1] at e
          simp only [zs, lens, List.length_append, List.length_cons, List.length_replicate, List.length_map, List.length_range] at e
          have := HML.out
          have : Sha.noughts M.length < 64 := by unfold Sha.noughts; omega
          omega
        by_cases hlt : i < 8
        · have hid : decide ((i : Int) < 8) = true := by simp; omega
          have HS1 := hideIt hs1
          have hi0 : (0 : Int) ≤ (i : Int) := by omega
          have hi1 : (i : Int) < 8 := by omega
          obtain ⟨u, hu⟩ : ∃ u, u = Sha.byteAt M.length (7 - i) := ⟨_, rfl⟩
          have hx : (s0.size : Int) * 8 / 2 ^ (56 - 8 * i) % 256 = (u.toNat : Int) := by rw [hu, ← Sha.byteAt_val, HML.out, show 8 * (7 - i) = 56 - 8 * i by omega]
          have hcv := run_one u
          have HU := hideIt hu
          clear hs1 hu
          go_wp2
          go_roundw
          case rel =>
            refine ⟨i + 1, _, by omega, rfl, by go_num, ?_, hb1.alloc hb1.size _⟩
            rw [cat_data, HS1.out, HU.out, List.append_assoc]
            exact congrArg (zs M (Sha.noughts M.length) ++ ·) (lens_next M.length i).symm
          case measure => simp [intOf]; omega
        · have hid : decide ((i : Int) < 8) = false := by simp; omega
          obtain rfl : i = 8 := by omega
          have hs2 : s1.data.toList = M ++ Sha.padL M.length := by rw [hs1]; exact ref_pad M
          have HS1 := hideIt hs2
          clear hs1 hs2 hl hl2 HS HSL HJ
          go_wp2_with (first | (refine wpList_build_as rfl 62 _ rfl (Sha.wordsA 8 Sha.init) (by kernel_rfl) ?_) | (refine wpList_store_row rfl 62 _ _ rfl _ _ rfl rfl _ _ (alloc_at rfl) (info39 _) (by rw [Sha.wordsA_size]; rfl) (words_all _ _) ?_) | (go_at_call 29; refine (salts_any _).mono ?_; rintro e w2 ⟨rfl, hb2⟩) | (refine wpList_store_row rfl 63 _ _ rfl _ _ rfl rfl _ _ (alloc_at rfl) (info40 _) (by rw [Sha.wordsA_size]; rfl) (words_all _ _) ?_))
          have hZ := padded_mod M
          have hsz1 : s1.size = (M ++ Sha.padL M.length).length := by rw [← HS1.out]; exact (str_len s1).symm
          obtain ⟨S, hS⟩ : ∃ S, M ++ Sha.padL M.length = S := ⟨_, rfl⟩
          rw [hS] at HS1 hZ hsz1
          obtain ⟨g5, hg5⟩ : ∃ g, wr.heap.size = g := ⟨_, rfl⟩
          obtain ⟨g6, hg6⟩ : ∃ g, w2.heap.size = g := ⟨_, rfl⟩
          have HST := hideIt (fun y => ref_start hb1 _ y hb2)
          rw [hg5, hg6] at HST ⊢
          have HSS := hideIt hS
          have HZ := hideIt hZ
          have HSZ := hideIt hsz1
          clear hS hZ hsz1 hg5 hg6 hb2 hb1
          go_loopw [7] (fun t w' => ∃ j a : Nat, a = 64 * j ∧ a ≤ S.length ∧ t = .int .i64 a ∧ RefMem w.heap.size g5 g6 (Sha.hashed (Sha.fn S) j) w w') (fun t _ => S.length - (intOf t).toNat)
          case atStart => exact ⟨0, 0, rfl, Nat.zero_le _, rfl, HST.out _⟩
          case round =>
            obtain ⟨j3, a, ha, haS, rfl, hm3⟩ := hrel
            by_cases hlt : a < S.length
            · have hlt1 : (a : Int) < (s1.size : Int) := by rw [HSZ.out]; omega
              have hab : a + 64 ≤ S.length := by have := HZ.out; omega
              obtain ⟨b, hb⟩ : ∃ b : Nat → UInt8, b = fun k => Sha.fn S (64 * j3 + k) := ⟨_, rfl⟩
              obtain ⟨hh, hhh⟩ : ∃ hh, Sha.hashed (Sha.fn S) j3 = hh := ⟨_, rfl⟩
              rw [hhh] at hm3
              have HN3 : Hid (Sha.hashed (Sha.fn S) (j3 + 1) = Sha.mix hh b) := by rw [hb, ← hhh]; exact rfl
              have HA := hideIt ha
              have HB := hideIt hb
              clear ha hb hhh HST
              go_wp2_with (first | (refine wpList_build_as rfl 63 _ rfl (Sha.wordsA 64 fun _ => 0#32) (by kernel_rfl) ?_) | (refine wpList_store_row rfl 63 _ _ rfl _ _ rfl rfl _ _ (alloc_at rfl) (info40 _) (by rw [Sha.wordsA_size]; rfl) (words_all _ _) ?_))
              obtain ⟨g8, hg8⟩ : ∃ g, wr.heap.size = g := ⟨_, rfl⟩
              have HST := hideIt (fun y => ref_w hm3 y (f := fun _ => 0#32))
              rw [hg8] at HST ⊢
              clear hg8 hm3
              go_loopw [9] (fun t w' => ∃ i : Nat, i ≤ 64 ∧ t = .int .i64 i ∧ RefW w.heap.size g5 g6 g8 hh (Sha.part b i) w w') (fun t _ => 64 - (intOf t).toNat)
              case atStart => exact ⟨0, by omega, rfl, by rw [Sha.part_zero]; exact HST.out _⟩
              case round =>
                obtain ⟨i, hi, rfl, hm⟩ := hrel
                clear HST
                by_cases hli : i < 64
                · have hid : decide ((i : Int) < 64) = true := by simp; omega
                  obtain ⟨x, hx⟩ : ∃ x, x = Sha.bePart b (i / 4) (i % 4) := ⟨_, rfl⟩
                  have c1 : wr.cell? ⟨g8, i / 4, none⟩ = some (.int .u32 (x.toNat : Int)) := by rw [cell_of_row _ _ (i / 4) _ _ _ hm.row, Sha.wordsA_at _ _ _ (by omega), Sha.part_at, hx]
                  have hf : wr.frozen? ⟨g8, i / 4, none⟩ = false := by simp [World.frozen?, hm.row]
                  have a1 : (i : Int) / 4 < 64 := by omega
                  have a3 : (0 : Int) ≤ (i : Int) := by omega
                  have a4 : (0 : Int) ≤ (i : Int) / 4 := by omega
                  have a5 : ((i : Int) / 4).toNat = i / 4 := by omega
                  have a6 : a + i < s1.size := by rw [HSZ.out]; omega
                  have a7 : (a : Int) + (i : Int) < (s1.size : Int) := by omega
                  have a8 : (0 : Int) ≤ (a : Int) + (i : Int) := by omega
                  have xl := x.isLt
                  have HX := hideIt hx
                  clear hx
                  have hy : s1[a + i] = b (i / 4 * 4 + i % 4) := by
                    rw [str_at s1 _ a6, HS1.out, HB.out, show i / 4 * 4 + i % 4 = i by omega, HA.out]
                  have HE := hideIt (hm.put (i / 4) (Sha.bePart b (i / 4) (i % 4 + 1)))
                  have HV := hideIt (Sha.be_next2 b (i / 4) (i % 4) x (s1[a + i]) HX.out hy)
                  rw [Sha.part_next] at HE
                  clear hy hm
                  go_wp2
                  go_region
                  go_wp2
                  go_roundw
                  case rel =>
                    refine ⟨i + 1, by omega, by go_num, ?_⟩
                    rw [HV.out]
                    exact HE.out
                  case measure => simp [intOf]; omega
                · have hid : decide ((i : Int) < 64) = false := by simp; omega
                  obtain rfl : i = 64 := by omega
                  rw [Sha.part_end] at hm
                  clear hi hli
                  go_wp2
                  go_loopw [10] (fun t w' => ∃ k i : Nat, k ≤ 48 ∧ i = 16 + k ∧ t = .int .i64 i ∧ RefW w.heap.size g5 g6 g8 hh (Sha.ext b k) w w') (fun t _ => 64 - (intOf t).toNat)
                  case atStart => exact ⟨0, 16, by omega, rfl, rfl, hm⟩
                  case round =>
                    obtain ⟨k, i, hk, hik, rfl, hm⟩ := hrel
                    by_cases hlk : k < 48
                    · obtain ⟨o2, ho2⟩ : ∃ o, i = o + 2 := ⟨i - 2, by omega⟩
                      obtain ⟨o7, ho7⟩ : ∃ o, i = o + 7 := ⟨i - 7, by omega⟩
                      obtain ⟨o15, ho15⟩ : ∃ o, i = o + 15 := ⟨i - 15, by omega⟩
                      have c2 := cell_of_row _ _ o2 _ _ _ hm.row
                      have c7 := cell_of_row _ _ o7 _ _ _ hm.row
                      have c15 := cell_of_row _ _ o15 _ _ _ hm.row
                      have c16 := cell_of_row _ _ k _ _ _ hm.row
                      have ci := cell_of_row _ _ i _ _ _ hm.row
                      rw [Sha.wordsA_at _ _ _ (by omega)] at c2 c7 c15 c16 ci
                      have hf : wr.frozen? ⟨g8, i, none⟩ = false := by simp [World.frozen?, hm.row]
                      obtain ⟨x2, hx2⟩ : ∃ x, x = Sha.ext b k o2 := ⟨_, rfl⟩
                      obtain ⟨x7, hx7⟩ : ∃ x, x = Sha.ext b k o7 := ⟨_, rfl⟩
                      obtain ⟨x15, hx15⟩ : ∃ x, x = Sha.ext b k o15 := ⟨_, rfl⟩
                      obtain ⟨x16, hx16⟩ : ∃ x, x = Sha.ext b k k := ⟨_, rfl⟩
                      rw [← hx2] at c2
                      rw [← hx7] at c7
                      rw [← hx15] at c15
                      rw [← hx16] at c16
                      have HV : Hid (Sha.up (Sha.ext b k) i (x16 + x7 + Sha.ss0 x15 + Sha.ss1 x2) = Sha.ext b (k + 1)) := by
                        rw [show x16 + x7 + Sha.ss0 x15 + Sha.ss1 x2 = Sha.ss1 x2 + x7 + Sha.ss0 x15 + x16 from by ac_rfl, hx2, hx7, hx15, hx16, hik, show o2 = 14 + k by omega, show o7 = 9 + k by omega, show o15 = 1 + k by omega]
                        exact rfl
                      clear hx2 hx7 hx15 hx16
                      have HI : Hid (i = 16 + k) := hik
                      have h2 : (i : Int) < 64 := by omega
                      have hid2 : decide ((i : Int) < 64) = true := by simp; omega
                      have b2 : (2 : Int) ≤ (i : Int) := by omega
                      have b7 : (7 : Int) ≤ (i : Int) := by omega
                      have b15 : (15 : Int) ≤ (i : Int) := by omega
                      have b16 : (16 : Int) ≤ (i : Int) := by omega
                      have l2 : (i : Int) - 2 < 64 := by omega
                      have l7 : (i : Int) - 7 < 64 := by omega
                      have l15 : (i : Int) - 15 < 64 := by omega
                      have l16 : (i : Int) - 16 < 64 := by omega
                      have r2 : IntKind.i64.wrap ((i : Int) - 2) = (i : Int) - 2 := wrap_sub i 2 (by omega) (by omega)
                      have r7 : IntKind.i64.wrap ((i : Int) - 7) = (i : Int) - 7 := wrap_sub i 7 (by omega) (by omega)
                      have r15 : IntKind.i64.wrap ((i : Int) - 15) = (i : Int) - 15 := wrap_sub i 15 (by omega) (by omega)
                      have r16 : IntKind.i64.wrap ((i : Int) - 16) = (i : Int) - 16 := wrap_sub i 16 (by omega) (by omega)
                      have e2 : ((i : Int) - 2).toNat = o2 := by omega
                      have e7 : ((i : Int) - 7).toNat = o7 := by omega
                      have e15 : ((i : Int) - 15).toNat = o15 := by omega
                      have e16 : ((i : Int) - 16).toNat = k := by omega
                      have n2 : i ≠ o2 := by omega
                      have n7 : i ≠ o7 := by omega
                      have n15 : i ≠ o15 := by omega
                      have n16 : i ≠ k := by omega
                      have x2l := x2.isLt
                      have x15l := x15.isLt
                      clear hik hlk hk ho2 ho7 ho15
                      go_wp2
                      go_region_held3 (fun w' => w'.cell? ⟨g8, o2, none⟩ = some (.int .u32 (x2.toNat : Int)) ∧ w'.cell? ⟨g8, o15, none⟩ = some (.int .u32 (x15.toNat : Int))) (go_keep) (fail)
                      go_wp2
                      go_region_held3 (fun w' => w'.cell? ⟨g8, o7, none⟩ = some (.int .u32 (x7.toNat : Int)) ∧ w'.cell? ⟨g8, k, none⟩ = some (.int .u32 (x16.toNat : Int))) (first | (go_keep; done) | (exact ⟨cell_apart2 c7 n7, cell_apart2 c16 n16⟩))
                        (first | (go_at_call 30; refine (turn_any _ _ _ (by decide) (by decide)).mono ?_; rintro e w' ⟨rfl, rfl⟩))
                      rw [ref_word]
                      obtain ⟨xv, hxv⟩ : ∃ xv, x16 + x7 + Sha.ss0 x15 + Sha.ss1 x2 = xv := ⟨_, rfl⟩
                      rw [hxv] at HV ⊢
                      clear hxv
                      go_wp2
                      go_roundw
                      case rel =>
                        repeat apply Exists.intro
                        refine ⟨?_, rfl⟩
                        refine ⟨k + 1, i + 1, by omega, by have := HI.out; omega, by go_num, ?_⟩
                        have hs := (hm.put i xv).drew
                        rw [HV.out] at hs
                        exact hs
                      case measure => simp [intOf]; omega
                    · obtain rfl : k = 48 := by omega
                      have hid2 : decide ((i : Int) < 64) = false := by simp; omega
                      have hpl : RefW w.heap.size g5 g6 g8 hh (Sha.plan b) w wr := hm
                      have HP := hideIt hpl.mem.h
                      have HST := hideIt (fun y => ref_v hpl y (v := hh))
                      clear hm hpl hik hk hlk
                      go_wp2_with (first | (refine wpList_load_row rfl 62 _ rfl _ rfl _ _ _ _ HP.out Tryd.underlying62 rfl (info39 _) ?_) | (refine wpList_store_row rfl 62 _ _ rfl _ _ rfl rfl _ _ (alloc_at rfl) (info39 _) (by rw [Sha.wordsA_size]; rfl) (words_all _ _) ?_))
                      obtain ⟨g13, hg13⟩ : ∃ g, wr.heap.size = g := ⟨_, rfl⟩
                      rw [hg13] at HST ⊢
                      clear hg13 HP
                      go_loopw [14] (fun t w' => ∃ k : Nat, k ≤ 64 ∧ t = .int .i64 k ∧ RefV w.heap.size g5 g6 g8 g13 hh (Sha.plan b) (Sha.rounds (Sha.plan b) hh k) w w') (fun t _ => 64 - (intOf t).toNat)
                      case atStart => exact ⟨0, by omega, rfl, HST.out _⟩
                      case round =>
                        obtain ⟨k, hk, rfl, hm⟩ := hrel
                        clear HST
                        by_cases hlt : k < 64
                        · have hkd : decide ((k : Int) < 64) = true := by simp; omega
                          have hlt' : (k : Int) < 64 := by omega
                          have hk0 : (0 : Int) ≤ (k : Int) := by omega
                          obtain ⟨v, hv⟩ : ∃ v, v = Sha.rounds (Sha.plan b) hh k := ⟨_, rfl⟩
                          obtain ⟨p, hp⟩ : ∃ p, p = Sha.plan b k := ⟨_, rfl⟩
                          obtain ⟨st, hs⟩ : ∃ s, s = Sha.salt k := ⟨_, rfl⟩
                          have HN : Hid (Sha.rounds (Sha.plan b) hh (k + 1) = Sha.step st p v) := by rw [hs, hp, hv]; exact rfl
                          have cK : wr.cell? ⟨g6, k, none⟩ = some (.int .u32 (st.toNat : Int)) := by rw [cell_of_row _ _ k _ _ _ hm.mw.mem.k, Sha.wordsA_at _ _ _ hlt, hs]
                          have cP : wr.cell? ⟨g8, k, none⟩ = some (.int .u32 (p.toNat : Int)) := by rw [cell_of_row _ _ k _ _ _ hm.mw.row, Sha.wordsA_at _ _ _ hlt, hp]
                          rw [← hv] at hm
                          have cv : ∀ j, j < 8 → wr.cell? ⟨g13, j, none⟩ = some (.int .u32 ((v j).toNat : Int)) := by
                            intro j hj; rw [cell_of_row _ _ j _ _ _ hm.row, Sha.wordsA_at _ _ _ hj]
                          have c0 := cv 0 (by omega)
                          have c1 := cv 1 (by omega)
                          have c2 := cv 2 (by omega)
                          have c3 := cv 3 (by omega)
                          have c4 := cv 4 (by omega)
                          have c5 := cv 5 (by omega)
                          have c6 := cv 6 (by omega)
                          have c7 := cv 7 (by omega)
                          have v4l := (v 4).isLt
                          clear cv hv hp hs
                          go_wp2
                          rw [ref_ch, ref_maj]
                          obtain ⟨cc, hcc⟩ : ∃ cc, Sha.ch (v 4) (v 5) (v 6) = cc := ⟨_, rfl⟩
                          obtain ⟨mm, hmm⟩ : ∃ mm, Sha.maj (v 0) (v 1) (v 2) = mm := ⟨_, rfl⟩
                          rw [hcc, hmm]
                          have HCC := hideIt hcc
                          have HMM := hideIt hmm
                          clear hcc hmm
                          go_region_held3 (fun w' => w'.cell? ⟨g13, 7, none⟩ = some (.int .u32 ((v 7).toNat : Int)) ∧ w'.cell? ⟨g13, 4, none⟩ = some (.int .u32 ((v 4).toNat : Int)) ∧ w'.cell? ⟨g6, k, none⟩ = some (.int .u32 (st.toNat : Int)) ∧ w'.cell? ⟨g8, k, none⟩ = some (.int .u32 (p.toNat : Int))) (go_keep)
                            (first | (go_at_call 30; refine (turn_any _ _ _ (by decide) (by decide)).mono ?_; rintro e w' ⟨rfl, rfl⟩))
                          simp only [Sha.b_xor, Sha.w_add]
                          obtain ⟨d, hd⟩ : ∃ d, v 7 + (Sha.rotr (v 4) 6 ^^^ Sha.rotr (v 4) 11 ^^^ Sha.rotr (v 4) 25) + cc + st + p = d := ⟨_, rfl⟩
                          rw [hd]
                          have HD : Hid (Sha.down st p v = d) := by rw [← hd, ← HCC.out]; exact rfl
                          clear hd
                          go_wp2
                          go_region_held3 (fun w' => w'.cell? ⟨g13, 0, none⟩ = some (.int .u32 ((v 0).toNat : Int))) (go_keep)
                            (first | (go_at_call 30; refine (turn_any _ _ _ (by decide) (by decide)).mono ?_; rintro e w' ⟨rfl, rfl⟩))
                          simp only [Sha.b_xor, Sha.w_add]
                          obtain ⟨ee, he⟩ : ∃ e, (Sha.rotr (v 0) 2 ^^^ Sha.rotr (v 0) 13 ^^^ Sha.rotr (v 0) 22) + mm = e := ⟨_, rfl⟩
                          rw [he]
                          have HT : Hid (Sha.wordsA 8 (Sha.step st p v) = litR d ee v) := by
                            rw [litR, Sha.b_add, Sha.b_add, ← lit8]
                            refine step_arr ?_ ?_
                            · rw [Sha.top, HD.out, ← he, ← HMM.out, BitVec.add_assoc]; exact rfl
                            · rw [HD.out]
                          have HR := hideIt hm.row
                          clear he
                          go_wp2_with (first | (refine wpList_build_as rfl 62 _ rfl (litR d ee v) (by kernel_rfl) ?_) | (refine wpList_store_row rfl 62 _ _ rfl _ (litR d ee v) rfl rfl _ _ HR.out (infoR d ee v) (sizeR d ee v v) (allR d ee v) ?_))
                          go_roundw
                          case rel =>
                            refine ⟨k + 1, by omega, by go_num, ?_⟩
                            rw [HN.out]
                            exact hm.set HT.out
                          case measure => simp [intOf]; omega
                        · obtain rfl : k = 64 := by omega
                          have hkd : decide ((64 : Int) < 64) = false := by decide
                          obtain ⟨v, hv⟩ : ∃ v, v = Sha.rounds (Sha.plan b) hh 64 := ⟨_, rfl⟩
                          have HV : Hid (Sha.mix hh b = Sha.added hh v 8) := by rw [hv]; exact rfl
                          rw [← hv] at hm
                          clear hv hlt hk
                          go_wp2
                          go_loopw [19] (fun t w' => ∃ i : Nat, i ≤ 8 ∧ t = .int .i64 i ∧ RefV w.heap.size g5 g6 g8 g13 (Sha.added hh v i) (Sha.plan b) v w w') (fun t _ => 8 - (intOf t).toNat)
                          case atStart =>
                            refine ⟨0, by omega, rfl, ?_⟩
                            have e : Sha.added hh v 0 = hh := by funext n; simp [Sha.added]
                            rw [e]; exact hm
                          case round =>
                            obtain ⟨i, hi, rfl, hm⟩ := hrel
                            by_cases hlt : i < 8
                            · have hid : decide ((i : Int) < 8) = true := by simp; omega
                              have hi1 : (i : Int) < 8 := by omega
                              have hi0 : (0 : Int) ≤ (i : Int) := by omega
                              have c1 : wr.cell? ⟨g5, i, none⟩ = some (.int .u32 ((hh i).toNat : Int)) := by rw [cell_of_row _ _ i _ _ _ hm.mw.mem.h, Sha.wordsA_at _ _ _ hlt, Sha.added_at]
                              have c2 : wr.cell? ⟨g13, i, none⟩ = some (.int .u32 ((v i).toNat : Int)) := by rw [cell_of_row _ _ i _ _ _ hm.row, Sha.wordsA_at _ _ _ hlt]
                              have hf : wr.frozen? ⟨g5, i, none⟩ = false := by simp [World.frozen?, hm.mw.mem.h]
                              obtain ⟨x, hx⟩ : ∃ x, hh i = x := ⟨_, rfl⟩
                              obtain ⟨y, hy⟩ : ∃ y, v i = y := ⟨_, rfl⟩
                              have HE := hideIt (hm.add i (hh i + v i))
                              rw [Sha.added_next] at HE
                              rw [hx, hy] at HE
                              rw [hx] at c1
                              rw [hy] at c2
                              clear hx hy hm
                              go_wp2
                              go_region
                              go_wp2
                              go_roundw
                              case rel =>
                                refine ⟨i + 1, by omega, by go_num, ?_⟩
                                rw [Sha.b_add]
                                exact HE.out
                              case measure => simp [intOf]; omega
                            · have hid : decide ((i : Int) < 8) = false := by simp; omega
                              obtain rfl : i = 8 := by omega
                              have hfin : RefMem w.heap.size g5 g6 (Sha.hashed (Sha.fn S) (j3 + 1)) w wr := by rw [HN3.out, HV.out]; exact hm.mw.mem
                              have HF := hideIt hfin
                              clear hm hfin
                              go_wp2
                              go_roundw
                              case rel =>
                                first | exact ⟨j3 + 1, a + 64, by have := HA.out; omega, hab, by go_num, HF.out⟩ | (repeat apply Exists.intro; exact ⟨⟨j3 + 1, a + 64, by have := HA.out; omega, hab, by go_num, HF.out⟩, rfl⟩)
                              case measure => simp [intOf]; omega
            · have hlt1 : ¬ (a : Int) < (s1.size : Int) := by rw [HSZ.out]; omega
              have hfin : Sha.hashed (Sha.fn S) j3 = Sha.hashed (Sha.fn (M ++ Sha.padL M.length)) ((M ++ Sha.padL M.length).length / 64) := by
                rw [HSS.out, show j3 = S.length / 64 by omega]
              obtain ⟨hh, hhh⟩ : ∃ hh, Sha.hashed (Sha.fn S) j3 = hh := ⟨_, rfl⟩
              have HO : Hid (Sha.sha M = Sha.out hh) := by rw [Sha.sha, ← hfin, hhh]; exact rfl
              rw [hhh] at hm3
              clear hfin hhh ha haS hlt
              go_wp2
              go_loopw [20, 21] (fun v t w' => ∃ (i : Nat) (o : ByteArray), i ≤ 32 ∧ v = .string o ∧ t = .int .i64 i ∧ o.data.toList = (List.range i).map (Sha.outByte hh) ∧ RefMem w.heap.size g5 g6 hh w w') (fun _ t _ => 32 - (intOf t).toNat)
              case atStart => exact ⟨0, _, by omega, rfl, rfl, rfl, hm3⟩
              case round =>
                obtain ⟨i, o, hi, rfl, rfl, ho, hm⟩ := hrel
                have hol : (o.size : Int) < 1000 := by have e := str_len o; rw [ho] at e; simp only [List.length_map, List.length_range] at e; omega
                by_cases hlt : i < 32
                · have hid : decide ((i : Int) < 32) = true := by simp; omega
                  obtain ⟨x, hx⟩ : ∃ x, x = hh (i / 4) := ⟨_, rfl⟩
                  have c1 : wr.cell? ⟨g5, i / 4, none⟩ = some (.int .u32 (x.toNat : Int)) := by rw [cell_of_row _ _ (i / 4) _ _ _ hm.h, Sha.wordsA_at _ _ _ (by omega), hx]
                  have a1 : (i : Int) / 4 < 8 := by omega
                  have a2 : (i : Int) < 32 := by omega
                  have a3 : (0 : Int) ≤ (i : Int) := by omega
                  have a4 : (0 : Int) ≤ (i : Int) / 4 := by omega
                  have a5 : ((i : Int) / 4).toNat = i / 4 := by omega
                  have xl := x.isLt
                  have HOD := hideIt ho
                  have HX := hideIt hx
                  obtain ⟨u, hu⟩ : ∃ u, u = Sha.outByte hh i := ⟨_, rfl⟩
                  have hxv : (x.toNat : Int) / 2 ^ (24 - i % 4 * 8) % 256 = (u.toNat : Int) := by rw [Sha.out_val, hu, hx, show 24 - i % 4 * 8 = 8 * (3 - i % 4) by omega]; exact rfl
                  have hcv := run_one u
                  have HU := hideIt hu
                  clear hx ho hu
                  go_wp2
                  go_roundw
                  case rel =>
                    refine ⟨i + 1, _, by omega, rfl, by go_num, ?_, hm.alloc _⟩
                    rw [cat_data, HOD.out, HU.out, List.range_succ, List.map_append]
                    exact rfl
                  case measure => simp [intOf]; omega
                · have hid : decide ((i : Int) < 32) = false := by simp; omega
                  obtain rfl : i = 32 := by omega
                  have hfin : o = Sha.out hh := by cases o; rename_i od; simp only [Sha.out, Sha.bstr] at ho ⊢; rw [← ho]
                  have HFI := hideIt hfin
                  clear hfin ho
                  go_wp2
                  go_ret
                  exact ⟨by rw [HO.out, ← HFI.out]; rfl, hm.below⟩
end Go.Proofs.YtllpfpbpdgpnkaaDoor.Sa
