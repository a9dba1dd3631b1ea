/- Digits and numbers of layer 2 as plain lists: what the walks' answers are told by. Small facts on texts and rows of bytes. Bytes that a call has gathered in a slice of its own: appended to in a drawn region, and made a text. A number as decimal digits, walked: the program's, by the library's own text. Decimal digits as plain lists: that a number has one form alone, and that the program's reading is the document's. The document's letter of a digit, walked. Decimal digits, walked: the program's reading of them, and the document's digits and reading. Bytes as digits, walked. The place of a digit among the digits, by the library's own search. The bytes of digits, walked. The document's digits of bytes, walked. -/
import Derived.Test.YtmjffngpaoaflaaGreatDoorRows
import Derived.WalkKit
import Derived.BigRegion
import Derived.Deep.QuietTactic
import Derived.BigQuiet
import Derived.Deep.RegionLaw
import Derived.Test.YtmjffngpaoaflaaGreatDoorShelf
import Derived.Lib.ItoaMem
import Derived.Lib.Bytealg
import Derived.Lib.Walk
import Derived.Deep.RegionHeld3
namespace Go.Proofs.YtmjffngpaoaflaaGreatDoor.Cb
namespace Cd
/-- The letter of a digit. -/
def dig (n : Nat) : UInt8 := if n < 10 then UInt8.ofNat (48 + n) else UInt8.ofNat (87 + n)
def hexL : List UInt8 → List UInt8
  | [] => []
  | b :: t => dig (b.toNat / 16) :: dig (b.toNat % 16) :: hexL t
/-- The number of a digit; 16: it is none. -/
def val (b : UInt8) : Nat := if 48 ≤ b.toNat ∧ b.toNat ≤ 57 then b.toNat - 48 else if 97 ≤ b.toNat ∧ b.toNat ≤ 102 then b.toNat - 87 else 16
def unhexL : List UInt8 → Option (List UInt8)
  | [] => some []
  | [_] => none
  | a :: b :: t => if val a < 16 ∧ val b < 16 then (unhexL t).map (fun r => UInt8.ofNat (16 * val a + val b) :: r) else none
theorem hexL_len : ∀ l : List UInt8, (hexL l).length = 2 * l.length
  | [] => rfl
  | _ :: t => by simp only [hexL, List.length_cons, hexL_len t]; omega
theorem hexL_append : ∀ a b : List UInt8, hexL (a ++ b) = hexL a ++ hexL b
  | [], _ => rfl
  | _ :: t, b => by simp only [hexL, List.cons_append, hexL_append t b]
theorem val_dig : ∀ n, n < 16 → val (dig n) = n := by decide
theorem unhex_hex : ∀ l : List UInt8, unhexL (hexL l) = some l
  | [] => rfl
  | b :: t => by
    have h := b.toNat_lt
    rw [hexL, unhexL, val_dig _ (by omega), val_dig _ (by omega), if_pos (by omega), unhex_hex t]
    simp only [Option.map_some]
    congr 2
    rw [show 16 * (b.toNat / 16) + b.toNat % 16 = b.toNat by omega]
    exact UInt8.ofNat_toNat
/-- What comes behind a number's last byte, read backwards. -/
def more (n : Nat) : List UInt8 :=
  if _h : n < 128 then [] else UInt8.ofNat (128 + (n / 128 - 1) % 128) :: more (n / 128 - 1)
  termination_by n
  decreasing_by omega
def numR (n : Nat) : List UInt8 := UInt8.ofNat (n % 128) :: more n
def numL (n : Nat) : List UInt8 := (numR n).reverse
theorem more_small {n : Nat} (h : n < 128) : more n = [] := by rw [more, dif_pos h]
theorem more_big {n : Nat} (h : ¬ n < 128) : more n = UInt8.ofNat (128 + (n / 128 - 1) % 128) :: more (n / 128 - 1) := by rw [more, dif_neg h]
/-- The number at the beginning: how many may be read yet, how many were, what they make. -/
def unL : Nat → Nat → Nat → List UInt8 → Nat × Nat × Nat
  | 0, _, _, _ => (0, 0, 6)
  | _ + 1, _, _, [] => (0, 0, 4)
  | k + 1, i, c, b :: t => if b.toNat < 128 then (c * 128 + b.toNat, i + 1, 0) else unL k (i + 1) (c * 128 + b.toNat % 128 + 1) t
def unnum (l : List UInt8) : Nat × Nat × Nat := unL 9 0 0 l
theorem more_len : ∀ (k n : Nat), n < 128 ^ (k + 1) → (more n).length ≤ k
  | 0, n, h => by rw [more_small (by omega)]; simp
  | k + 1, n, h => by
    by_cases hn : n < 128
    · rw [more_small hn]; simp
    · rw [more_big hn, List.length_cons]
      have := more_len k (n / 128 - 1) (by rw [Nat.pow_succ] at h; omega)
      omega
def accL (l : List UInt8) : Nat := l.foldl (fun c b => c * 128 + b.toNat % 128 + 1) 0
theorem byte_hi (x : Nat) : (UInt8.ofNat (128 + x % 128)).toNat = 128 + x % 128 := by rw [UInt8.toNat_ofNat']; omega
theorem byte_lo (x : Nat) : (UInt8.ofNat (x % 128)).toNat = x % 128 := by rw [UInt8.toNat_ofNat']; omega
theorem acc_more (n : Nat) : accL (more n).reverse * 128 + n % 128 = n := by
  by_cases hn : n < 128
  · rw [more_small hn]; simp [accL]; omega
  · have ih := acc_more (n / 128 - 1)
    rw [more_big hn, List.reverse_cons, accL, List.foldl_append, ← accL]
    simp only [List.foldl_cons, List.foldl_nil, byte_hi]
    omega
  termination_by n
  decreasing_by omega
theorem more_hi (n : Nat) : ∀ b ∈ more n, 128 ≤ b.toNat := by
  by_cases hn : n < 128
  · rw [more_small hn]; simp
  · have ih := more_hi (n / 128 - 1)
    rw [more_big hn]
    intro b hb
    rcases List.mem_cons.1 hb with rfl | hb
    · rw [byte_hi]; omega
    · exact ih b hb
  termination_by n
  decreasing_by omega
theorem unL_hi : ∀ (l : List UInt8) (k i c : Nat) (r : List UInt8), (∀ b ∈ l, 128 ≤ b.toNat) → l.length ≤ k →
    unL k i c (l ++ r) = unL (k - l.length) (i + l.length) (l.foldl (fun c b => c * 128 + b.toNat % 128 + 1) c) r
  | [], k, i, c, r, _, _ => by simp
  | b :: t, 0, i, c, r, _, hk => by simp at hk
  | b :: t, k + 1, i, c, r, h, hk => by
    have hb := h b (by simp)
    have ih := unL_hi t k (i + 1) (c * 128 + b.toNat % 128 + 1) r (fun x hx => h x (by simp [hx])) (by simp at hk; omega)
    rw [List.cons_append, unL, if_neg (by omega), ih]
    simp only [List.length_cons, List.foldl_cons]
    congr 1 <;> omega
theorem unnum_num (n : Nat) (h : n < 9223372036854775808) (r : List UInt8) : unnum (numL n ++ r) = (n, (numL n).length, 0) := by
  have hl : (more n).length ≤ 8 := more_len 8 n (by omega)
  have hm := acc_more n
  rw [unnum, numL, numR, List.reverse_cons, List.append_assoc, unL_hi _ _ _ _ _ (fun b hb => more_hi n b (by simpa using hb)) (by simp; omega), ← accL]
  simp only [List.length_reverse, List.cons_append, List.nil_append, List.length_append, List.length_cons, List.length_nil]
  obtain ⟨j, hj⟩ : ∃ j, 9 - (more n).length = j + 1 := ⟨8 - (more n).length, by omega⟩
  rw [hj, unL, byte_lo, if_pos (by omega), hm]
  congr 2
  omega
theorem num_acc : ∀ (l : List UInt8) (d : Nat), (∀ b ∈ l, 128 ≤ b.toNat) → d < 128 → more (accL l.reverse * 128 + d) = l
  | [], d, _, hd => by simp only [List.reverse_nil, accL, List.foldl_nil]; exact more_small (by omega)
  | b :: t, d, h, hd => by
    have hb := h b (by simp)
    have hbl := b.toNat_lt
    have ih := num_acc t (b.toNat % 128) (fun x hx => h x (by simp [hx])) (by omega)
    have e : accL (b :: t).reverse = accL t.reverse * 128 + b.toNat % 128 + 1 := by
      rw [List.reverse_cons, accL, List.foldl_append, ← accL]; simp
    rw [more_big (by omega), e, show ((accL t.reverse * 128 + b.toNat % 128 + 1) * 128 + d) / 128 - 1 = accL t.reverse * 128 + b.toNat % 128 by omega, ih]
    congr 1
    rw [show 128 + (accL t.reverse * 128 + b.toNat % 128) % 128 = b.toNat by omega]
    exact UInt8.ofNat_toNat
/-- A number that is read has just these bytes. -/
theorem unL_form : ∀ (k i c : Nat) (p l : List UInt8) (n j : Nat), (∀ b ∈ p, 128 ≤ b.toNat) → i = p.length → c = accL p → unL k i c l = (n, j, 0) →
    numL n = (p ++ l).take j ∧ j ≤ p.length + l.length
  | 0, i, c, p, l, n, j, _, _, _, h => by simp [unL] at h
  | k + 1, i, c, p, [], n, j, _, _, _, h => by simp [unL] at h
  | k + 1, i, c, p, b :: t, n, j, hp, hi, hc, h => by
    rw [unL] at h
    by_cases hb : b.toNat < 128
    · rw [if_pos hb] at h
      simp only [Prod.mk.injEq] at h
      obtain ⟨rfl, rfl, _⟩ := h
      subst hi hc
      have e := num_acc p.reverse b.toNat (fun x hx => hp x (by simpa using hx)) hb
      rw [List.reverse_reverse] at e
      constructor
      · rw [numL, numR, e, List.reverse_cons, List.reverse_reverse, show (accL p * 128 + b.toNat) % 128 = b.toNat by omega, UInt8.ofNat_toNat]
        rw [List.take_append, List.take_of_length_le (by omega)]
        simp
      · simp
    · rw [if_neg hb] at h
      have := unL_form k (i + 1) _ (p ++ [b]) t n j (fun x hx => by
        rcases List.mem_append.1 hx with hx | hx
        · exact hp x hx
        · simp at hx; subst hx; omega) (by simp [hi]) (by rw [accL, List.foldl_append, ← accL, ← hc]; simp) h
      simpa [Nat.add_assoc, Nat.add_comm, Nat.add_left_comm] using this
theorem unnum_form {l : List UInt8} {n j : Nat} (h : unnum l = (n, j, 0)) : numL n = l.take j ∧ j ≤ l.length := by
  simpa using unL_form 9 0 0 [] l n j (by simp) rfl rfl h
end Cd
end Go.Proofs.YtmjffngpaoaflaaGreatDoor.Cb
namespace Go.Proofs.YtmjffngpaoaflaaGreatDoor.Cb
open Go.RowKit
theorem hideIt {p : Prop} (h : p) : Hid p := h
def bs (l : List UInt8) : ByteArray := ⟨l.toArray⟩
theorem bs_data (s : ByteArray) : bs s.data.toList = s := by cases s; simp [bs]
theorem bs_list (l : List UInt8) : (bs l).data.toList = l := by simp [bs]
theorem bs_size (l : List UInt8) : (bs l).size = l.length := by simp [bs, ByteArray.size]
theorem str_len (s : ByteArray) : s.data.toList.length = s.size := by rw [Array.length_toList]; rfl
theorem cat_data (a b : ByteArray) : (a ++ b).data.toList = a.data.toList ++ b.data.toList := by rw [ByteArray.data_append, Array.toList_append]
theorem bs_append (a b : List UInt8) : bs a ++ bs b = bs (a ++ b) := by
  rw [← bs_data (bs a ++ bs b), cat_data, bs_list, bs_list]
theorem below_step {B : Nat} {w a b : World} (h : Below B w a) (hB : B ≤ w.heap.size) (k : Below a.heap.size a b) : Below B w b := h.trans (k.mono (Nat.le_trans hB h.size))
theorem below2 {w a b : World} (h : Below w.heap.size w a) (k : Below a.heap.size a b) : Below w.heap.size w b := below_step h (Nat.le_refl _) k
theorem infoB : (Tryz.prog.info? 5).map (fun i => (i.zero, i.size, i.bytes)) = some (some (.int .u8 0), 1, 1) := by kernel_rfl
def u8s (l : List UInt8) : List Value := l.map fun b => Value.int .u8 (b.toNat : Int)
theorem u8s_len (l : List UInt8) : (u8s l).length = l.length := by simp [u8s]
theorem u8s_append (a b : List UInt8) : u8s (a ++ b) = u8s a ++ u8s b := by simp [u8s]
theorem alloc_at {w : World} {o : Obj} {n : Nat} (h : w.heap.size = n) : (w.alloc o).heap[n]? = some o := by subst h; exact heap_alloc_new w o
/-! A row of bytes in memory. -/
def rowA (l : List UInt8) : Array Value := (u8s l).toArray
theorem rowA_at (l : List UInt8) (j : Nat) (h : j < l.length) : (rowA l)[j]? = some (.int .u8 ((l[j]).toNat : Int)) := by simp [rowA, u8s, h]
theorem rowA_set (l : List UInt8) (i : Nat) (v : UInt8) : (rowA l).setIfInBounds i (.int .u8 (v.toNat : Int)) = rowA (l.set i v) := by
  simp [rowA, u8s, List.setIfInBounds_toArray, List.map_set]
theorem made_bytes (n : Nat) : madeCells (Value.int .u8 0).cells n = rowA (List.replicate n 0) := by
  apply Array.ext_getElem?
  intro k
  by_cases h : k < n
  · rw [rowA_at _ _ (by simpa using h)]
    have : k % 1 = 0 := by omega
    simp [madeCells, h, Value.cells, this]
  · rw [Array.getElem?_eq_none (by simp [size_madeCells]; omega), Array.getElem?_eq_none (by simp [rowA, u8s]; omega)]
theorem run_make_bytes (k : IntKind) (n : Nat) (hn : n ≤ 281474976710656) (w : World) :
    (Instr.makeSlice 97 (.int k (n : Int)) (.int k (n : Int))).run Tryz.prog w = .ok (.slice (some ⟨w.heap.size, 0, none⟩) n n) (w.alloc (.cells (rowA (List.replicate n 0)) 5)) := by
  obtain ⟨i, hi, hz, hs, hb⟩ := info_parts infoB
  have := run_make (P := Tryz.prog) w 97 5 i (.int .u8 0) Tryz.underlying97 hi hz k k (n : Int) (n : Int) (by omega) (Int.le_refl _) (by rw [hb]; omega) (by omega)
  rw [this, hs, Int.toNat_natCast, Nat.mul_one, made_bytes]
theorem row_put {w : World} {g i : Nat} {l : List UInt8} {t : TypeId} (v : UInt8) (h : w.heap[g]? = some (.cells (rowA l) t (0, 0))) :
    (w.setCell ⟨g, i, none⟩ (.int .u8 (v.toNat : Int))).heap[g]? = some (.cells (rowA (l.set i v)) t (0, 0)) := by
  rw [heap_setCell_same w g i _ t _ h, rowA_set]
theorem ints_back (l : List UInt8) : strOfNums (l.map fun b => (b.toNat : Int)) = bs l := by
  have : ∀ l : List UInt8, List.map ((fun n : Int => UInt8.ofNat n.toNat) ∘ fun b : UInt8 => (b.toNat : Int)) l = l := by
    intro l
    induction l with
    | nil => rfl
    | cons b t ih => rw [List.map_cons, ih]; simp
  simp [strOfNums, bs, this]
theorem run_row (l : List UInt8) (w : World) (g : Nat) (t : TypeId) (h : w.heap[g]? = some (.cells (rowA l) t (0, 0))) (c : Nat) :
    (convert 97 9 (.slice (some ⟨g, 0, none⟩) l.length c)).run Tryz.prog w = .ok (.string (bs l)) w := by
  rw [← ints_back]
  refine run_convert_bytes_arg (P := Tryz.prog) w 97 5 Tryz.underlying97 Tryz.underlying5 g 0 l.length c _ (by simp) (fun i hi => ?_) 9 Tryz.underlying9
  rw [Nat.zero_add, cell_of_row _ _ i _ _ _ h, rowA_at _ _ hi]
  simp [List.getD, hi]
theorem run_one (u : UInt8) (w : World) : (convert 97 9 (.slice (some ⟨w.heap.size, 0, none⟩) 1 1)).run Tryz.prog (w.alloc (.cells #[.int .u8 (u.toNat : Int)] 5)) = .ok (.string (bs [u])) (w.alloc (.cells #[.int .u8 (u.toNat : Int)] 5)) :=
  run_row [u] _ w.heap.size 5 (alloc_at rfl) 1
end Go.Proofs.YtmjffngpaoaflaaGreatDoor.Cb
namespace Go.Proofs.YtmjffngpaoaflaaGreatDoor.Cb
open Go.RowKit
theorem step_append_own {P : Program} {ops : Array Oper} {o : Oper} {a : Act} {w : World} {K : Act → World → Prop} {Q : Exit → Act → World → Prop} {E : Prop}
    (hg : o.guard = none) (s x : Operand) (t : TypeId) (hop : o.op = Op.call { callee := Callee.builtin Builtin.append, args := #[s, x], argTypes := #[t, t] })
    (base : Nat) (e : TypeId) (i : TypeInfo) (z : Value) (size bytes : Nat) (h1 : P.underlying t = some (.slice e)) (h2 : P.info? e = some i) (h3 : i.zero = some z) (h4 : i.size = size) (h5 : i.bytes = bytes) (h6 : z.cells.size = size) (h7 : 0 < size)
    (v : Value) (n : Nat) (xs : List Value) (hs : a.eval s = v) (hown : w.ownsRow base e size v n xs)
    (ad : Addr) (m c : Nat) (news : List Value) (hx : a.eval x = .slice (some ad) m c) (hn : news.length = m * size) (hc : ∀ j u, news[j]? = some u → w.cell? (ad.add j) = some u) (h1c : ∀ u ∈ news, u.oneCell' = true)
    (b1 : n + m ≤ maxLen) (b2 : (n + m) * bytes ≤ 140737488355328) (hbase : base ≤ w.heap.size)
    (hK : ∀ v' w', w'.ownsRow base e size v' (n + m) (xs ++ news) → w.grownBy w' v.ownBlock → K (a.put o.dst v') w') :
    if Region.wanted o (yielded ops a.tmps) = true then Oper.wp P o a w K Q else E := by
  have hw : Region.wanted o (yielded ops a.tmps) = true := by simp [Region.wanted, hg]
  rw [if_pos hw]
  obtain ⟨v', w', hrun, r1, r2, _⟩ := run_append_own (P := P) w base t o.type e i z size bytes h1 h2 h3 h4 h5 h6 h7 v n xs hown ad m c news hn hc h1c b1 b2 hbase
  unfold Oper.wp
  simp [execOp, hop, resolve, invoke, builtin, hs, hx, hrun, Result.andThen]
  exact hK _ _ r1 r2
theorem u8s_one (l : List UInt8) : ∀ u ∈ u8s l, u.oneCell' = true := by
  intro u hu
  obtain ⟨b, _, rfl⟩ := List.mem_map.1 hu
  rfl
theorem u8s_at (l : List UInt8) (j : Nat) (h : j < l.length) : (u8s l)[j]? = some (.int .u8 ((l[j]).toNat : Int)) := by simp [u8s, h]
/-- The bytes of a slice that the call owns, as a text. -/
theorem run_own {B n : Nat} {v : Value} {l : List UInt8} {w : World} (h : w.ownsRow B 5 1 v n (u8s l)) : (convert 97 9 v).run Tryz.prog w = .ok (.string (bs l)) w := by
  have hl := h.1
  rw [u8s_len, Nat.mul_one] at hl
  have h0 := h
  rcases h.2 with ⟨rfl, rfl⟩ | ⟨g, cap, cur, rfl, _, _, _, _, _, _⟩
  · have : l = [] := List.eq_nil_of_length_eq_zero hl
    subst this
    exact run_convert_bytes_nil (P := Tryz.prog) w 97 5 Tryz.underlying97 Tryz.underlying5 0 0 9 Tryz.underlying9
  · rw [← ints_back]
    refine run_convert_bytes_arg (P := Tryz.prog) w 97 5 Tryz.underlying97 Tryz.underlying5 g 0 n cap _ (by simp [hl]) (fun i hi => ?_) 9 Tryz.underlying9
    rw [Nat.zero_add, h0.cellAt i (by omega), u8s_at l i (by omega)]
    simp [List.getD, show i < l.length by omega]
theorem own_ge {B n : Nat} {v : Value} {xs : List Value} {w : World} (h : w.ownsRow B 5 1 v n xs) : ∀ k, v.ownBlock = some k → B ≤ k := by
  intro k hk
  rcases h.2 with ⟨rfl, rfl⟩ | ⟨g, cap, cur, rfl, hb, _, _, _, _, _⟩
  · simp [Value.ownBlock] at hk
  · simp [Value.ownBlock] at hk; omega
end Go.Proofs.YtmjffngpaoaflaaGreatDoor.Cb
namespace Go.Proofs.YtmjffngpaoaflaaGreatDoor.Cb
open Go.RowKit Go.Sort
def tabName : String := (Rows.objectOpensRow.named.getD 3 "")
def Tab (w : World) : Prop := Lib.TabIs Tryz.prog w tabName .u64 Lib.pow10Tab
theorem var_below {w w' : World} {n : String} {v : Array Value} (h : Below w.heap.size w w') (hv : w.var? Tryz.prog n = some v) : w'.var? Tryz.prog n = some v := by
  unfold World.var? at *
  cases hg : Tryz.prog.globalNamed n with
  | none => simp [hg] at hv
  | some g =>
    simp only [hg, Option.bind_some] at hv ⊢
    have hlt : g < w.heap.size := by
      rcases Nat.lt_or_ge g w.heap.size with h' | h'
      · exact h'
      · rw [Array.getElem?_eq_none h'] at hv; simp at hv
    rw [h.block g hlt]
    exact hv
theorem tab_below {w w' : World} (h : Below w.heap.size w w') (ht : Tab w) : Tab w' := var_below h ht
theorem numDigits_any (u : Nat) (h1 : 1 ≤ u) (h2 : u < 18446744073709551616) (w : World) (ht : Tab w) :
    Calls Tryz.prog 109 #[.int .u64 (u : Int)] w fun e w' => e = .returned (.int .i64 (Lib.nDigits u : Int)) ∧ w' = w := Any.internal_strconv_numDigits Tryz.laysM284 u h1 h2 w ht
theorem small_any (i : Nat) (h : i < 100) (w : World) :
    Calls Tryz.prog 108 #[.int .i64 (i : Int)] w fun e w' => e = .returned (.string (bs (Lib.decDigits i))) ∧ w' = w := Any.internal_strconv_small Tryz.lays283 i h w
theorem fmt_any (blk off cap : Nat) (u : Nat) (d : Array UInt8) (w : World) (hH : Holds (fun (b : UInt8) => Value.int .u8 (b.toNat : Int)) w blk off d) (hu : u < 10 ^ d.size) (hu64 : u < 18446744073709551616) (hsz : d.size < 4611686018427387904) :
    Calls Tryz.prog 110 #[.slice (some ⟨blk, off, none⟩) d.size cap, .int .u64 (u : Int)] w fun e w' =>
      e = .returned (.tuple #[]) ∧ ∃ (n v' : Nat) (dk : Array UInt8), w' = (putRow (fun (b : UInt8) => Value.int .u8 (b.toNat : Int)) w blk off dk).drewN n ∧ Lib.FmtInv d.size u 0 v' dk := Any.internal_strconv_formatBase10 Tryz.lays285 blk off cap u d w hH hu hu64 hsz
theorem holds0 (w : World) (T : TypeId) (nd : Nat) (hs : nd ≤ 24) : Holds (fun (b : UInt8) => Value.int .u8 (b.toNat : Int)) (w.alloc (.cells Lib.zeros24 T)) w.heap.size 0 (Array.replicate nd (0 : UInt8)) := fun j hj => by
  have hj' : j < nd := by simpa using hj
  refine ⟨?_, World.frozen?_alloc_new _ _ _ _⟩
  rw [World.cell?_alloc_new, Lib.zeros24_at _ (by omega), getElem!_pos _ j hj]
  simp
theorem below_put {w : World} {o : Obj} {dk : Array UInt8} {n : Nat} : Below w.heap.size w ((putRow (fun (b : UInt8) => Value.int .u8 (b.toNat : Int)) (w.alloc o) w.heap.size 0 dk).drewN n) := by
  have h1 : Below w.heap.size (w.alloc o) (putRow (fun (b : UInt8) => Value.int .u8 (b.toNat : Int)) (w.alloc o) w.heap.size 0 dk) := ⟨rfl, rfl, rfl, by simp [putRow, mapBlock], fun k hk => by simp only [putRow, mapBlock]; rw [Array.getElem?_modify, if_neg (by omega)]⟩
  have h2 : Below w.heap.size (putRow (fun (b : UInt8) => Value.int .u8 (b.toNat : Int)) (w.alloc o) w.heap.size 0 dk) ((putRow (fun (b : UInt8) => Value.int .u8 (b.toNat : Int)) (w.alloc o) w.heap.size 0 dk).drewN n) := ⟨rfl, rfl, rfl, Nat.le_refl _, fun _ _ => rfl⟩
  exact (((Below.refl _ _).alloc (Nat.le_refl _) o).trans h1).trans h2
theorem nd20 (u : Nat) (h1 : 1 ≤ u) (h : u < 18446744073709551616) : Lib.nDigits u ≤ 20 := by
  have := Lib.numDigits_eq u h1 h
  split at this <;> omega
set_option maxHeartbeats 1600000 in
set_option maxRecDepth 100000 in
theorem fmtuint_any (u : Nat) (w : World) (hu64 : u < 18446744073709551616) (ht : Tab w) :
    Calls Tryz.prog 89 #[.int .u64 (u : Int), .int .i64 10] w fun e w' => e = .returned (.string (bs (Lib.decDigits u))) ∧ Below w.heap.size w w' := by
  have u64 : (u : Int) < 18446744073709551616 := by omega
  by_cases hs : u < 100
  · have h1 : (u : Int) < 100 := by omega
    have HS := hideIt (small_any u hs)
    go_enter Tryz.func89, Tryz.ntmps89
    go_wp2_with (first | (go_at_call 108; refine (HS.out _).mono ?_; rintro e w' ⟨rfl, rfl⟩))
    go_ret
    exact ⟨rfl, Below.refl _ _⟩
  · have h1 : ¬ (u : Int) < 100 := by omega
    have h1d : decide ((u : Int) < 100) = false := decide_eq_false h1
    have hu1 : 1 ≤ u := by omega
    have hn := nd20 u hu1 hu64
    have hH0 := holds0 w 136 (Lib.nDigits u) (by omega)
    have hfmt := fmt_any w.heap.size 0 24 u (Array.replicate (Lib.nDigits u) 0) (w.alloc (.cells Lib.zeros24 136)) hH0 (by rw [Array.size_replicate]; exact Lib.lt_pow_nDigits u) hu64 (by rw [Array.size_replicate]; omega)
    rw [Array.size_replicate] at hfmt
    have HN := hideIt (fun w h => numDigits_any u hu1 hu64 w h)
    have HF := hideIt hfmt
    have HH := hideIt hH0
    have HT : Hid (Tab (w.alloc (.cells Lib.zeros24 136))) := hideIt (tab_below ((Below.refl _ _).alloc (Nat.le_refl _) _) ht)
    obtain ⟨m, hm⟩ : ∃ m, Lib.nDigits u = m := ⟨_, rfl⟩
    rw [hm] at HN HF hn
    have m1 : (m : Int) ≤ 24 := by omega
    have m0 : (0 : Int) ≤ (m : Int) := by omega
    clear hH0 hfmt
    go_enter Tryz.func89, Tryz.ntmps89
    go_wp2_with (first | (go_at_call 109; refine (HN.out _ HT.out).mono ?_; rintro e w' ⟨rfl, rfl⟩))
    refine HF.out.mono ?_
    rintro e W2 ⟨rfl, k, v', dk, hW2, hI⟩
    have hb2 : Below w.heap.size w W2 := by rw [hW2]; exact below_put
    have hcv : (convert 97 9 (.slice (some ⟨w.heap.size, 0, none⟩) m 24)).run Tryz.prog W2 = .ok (.string (bs (Lib.decDigits u))) W2 := by
      rw [← ints_back]
      refine run_convert_bytes_arg (P := Tryz.prog) W2 97 5 Tryz.underlying97 Tryz.underlying5 w.heap.size 0 m 24 _ (by rw [List.length_map, Lib.decDigits_length, hm]) (fun i hi => ?_) 9 Tryz.underlying9
      have hi2 : i < (Lib.decDigits u).length := by rw [Lib.decDigits_length, hm]; exact hi
      have hn2 := Lib.row_is_numeral (by rw [hm]; exact hI) i hi2
      have hH := HH.out
      rw [hm] at hH
      rw [hW2, World.cell?_drewN, cell?_putRow (fun (b : UInt8) => Value.int .u8 (b.toNat : Int)) _ w.heap.size 0 _ dk hH (by rw [hI.size, Array.size_replicate]) i (by rw [hI.size]; exact hi), ← hn2]
      simp [List.getD, hi2]
    clear hW2 hI HH HF HN
    go_wp2
    go_ret
    exact ⟨rfl, hb2⟩
set_option maxHeartbeats 400000 in
theorem dec_any (u : Nat) (w : World) (hu64 : u < 18446744073709551616) (ht : Tab w) :
    Calls Tryz.prog 39 #[.int .u64 (u : Int)] w fun e w' => e = .returned (.string (bs (Lib.decDigits u))) ∧ Below w.heap.size w w' := by
  have HF := hideIt (fmtuint_any u w hu64 ht)
  clear ht
  have HG : Hid (Calls Tryz.prog 69 #[.int .u64 (u : Int), .int .i64 10] w fun e w' => e = .returned (.string (bs (Lib.decDigits u))) ∧ Below w.heap.size w w') := by
    refine hideIt ?_
    go_enter Tryz.func69, Tryz.ntmps69
    go_wp2_with (first | (go_at_call 89; refine HF.out.mono ?_; rintro e w1 ⟨rfl, hb1⟩))
    go_ret
    exact ⟨rfl, hb1⟩
  go_enter Tryz.func39, Tryz.ntmps39
  go_wp2_with (first | (go_at_call 69; refine HG.out.mono ?_; rintro e w1 ⟨rfl, hb1⟩))
  go_ret
  exact ⟨rfl, hb1⟩
end Go.Proofs.YtmjffngpaoaflaaGreatDoor.Cb
namespace Go.Proofs.YtmjffngpaoaflaaGreatDoor.Cb
namespace Dd
def M : Nat := 18446744073709551615
def isD (c : UInt8) : Prop := 48 ≤ c.toNat ∧ c.toNat ≤ 57
def fv (a : Nat) (l : List UInt8) : Nat := l.foldl (fun a c => a * 10 + (c.toNat - 48)) a
theorem fv_ge : ∀ (l : List UInt8) (a : Nat), a ≤ fv a l
  | [], _ => Nat.le_refl _
  | c :: t, a => Nat.le_trans (by omega) (fv_ge t (a * 10 + (c.toNat - 48)))
theorem fv_append (a : Nat) (l : List UInt8) (c : UInt8) : fv a (l ++ [c]) = fv a l * 10 + (c.toNat - 48) := by
  simp [fv, List.foldl_append]
theorem parse_ok : ∀ (l : List UInt8) (a u : Nat), a ≤ M → Lib.parseUintM M a l = .ok u → u = fv a l ∧ (∀ c ∈ l, isD c) ∧ u ≤ M
  | [], a, u, ha, h => by
    rw [Lib.parseUintM] at h
    injection h with h
    subst h
    exact ⟨rfl, by simp, ha⟩
  | c :: t, a, u, _, h => by
    rw [Lib.parseUintM] at h
    by_cases h1 : 48 ≤ c.toNat ∧ c.toNat ≤ 57
    · rw [if_pos h1] at h
      by_cases h2 : 1844674407370955162 ≤ a
      · rw [if_pos h2] at h; cases h
      · rw [if_neg h2] at h
        by_cases h3 : M < a * 10 + (c.toNat - 48)
        · rw [if_pos h3] at h; cases h
        · rw [if_neg h3] at h
          obtain ⟨e1, e2, e3⟩ := parse_ok t _ u (by omega) h
          refine ⟨e1, ?_, e3⟩
          intro x hx
          rcases List.mem_cons.1 hx with rfl | hx
          · exact h1
          · exact e2 x hx
    · rw [if_neg h1] at h; cases h
theorem parse_of : ∀ (l : List UInt8) (a : Nat), (∀ c ∈ l, isD c) → fv a l ≤ M → Lib.parseUintM M a l = .ok (fv a l)
  | [], _, _, _ => rfl
  | c :: t, a, h, hm => by
    have hc : 48 ≤ c.toNat ∧ c.toNat ≤ 57 := h c (by simp)
    have h1 := fv_ge t (a * 10 + (c.toNat - 48))
    have h2 : a * 10 + (c.toNat - 48) ≤ M := Nat.le_trans h1 hm
    unfold M at h2
    rw [Lib.parseUintM, if_pos hc, if_neg (by omega), if_neg (by unfold M; omega)]
    exact parse_of t _ (fun x hx => h x (by simp [hx])) hm
theorem dec_big {u : Nat} (h : ¬ u < 10) : Lib.decDigits u = Lib.decDigits (u / 10) ++ [UInt8.ofNat (48 + u % 10)] := by rw [Lib.decDigits, dif_neg h]
theorem dig_val (d : Nat) (h : d < 10) : (UInt8.ofNat (48 + d)).toNat = 48 + d := by rw [UInt8.toNat_ofNat']; omega
theorem dec_ne (u : Nat) : Lib.decDigits u ≠ [] := by
  by_cases h : u < 10
  · rw [Lib.decDigits_one h]; simp
  · rw [dec_big h]; simp
theorem dec_all (u : Nat) : ∀ c ∈ Lib.decDigits u, isD c := by
  by_cases h : u < 10
  · rw [Lib.decDigits_one h]
    intro c hc
    rw [List.mem_singleton] at hc
    subst hc
    unfold isD
    rw [dig_val u h]; omega
  · have ih := dec_all (u / 10)
    rw [dec_big h]
    intro c hc
    rcases List.mem_append.1 hc with hc | hc
    · exact ih c hc
    · rw [List.mem_singleton] at hc
      subst hc
      unfold isD
      rw [dig_val _ (by omega)]; omega
  termination_by u
  decreasing_by omega
theorem dec_val (u : Nat) : fv 0 (Lib.decDigits u) = u := by
  by_cases h : u < 10
  · rw [Lib.decDigits_one h]
    simp only [fv, List.foldl_cons, List.foldl_nil, dig_val u h]; omega
  · have ih := dec_val (u / 10)
    rw [dec_big h, fv_append, ih, dig_val _ (by omega)]; omega
  termination_by u
  decreasing_by omega
theorem dec_head (u : Nat) (h : ¬ u < 10) : (Lib.decDigits u).head? ≠ some 48 := by
  rw [dec_big h]
  by_cases h2 : u / 10 < 10
  · rw [Lib.decDigits_one h2]
    simp only [List.cons_append, List.head?_cons, ne_eq, Option.some.injEq]
    intro e
    have := congrArg UInt8.toNat e
    rw [dig_val _ h2] at this
    have h48 : (48 : UInt8).toNat = 48 := rfl
    omega
  · have ih := dec_head (u / 10) h2
    cases hd : Lib.decDigits (u / 10) with
    | nil => exact absurd hd (dec_ne _)
    | cons a t =>
      rw [hd] at ih
      simpa using ih
  termination_by u
  decreasing_by omega
theorem dec_form : ∀ (n : Nat) (l : List UInt8), l.length = n → l ≠ [] → (∀ c ∈ l, isD c) → (l.length = 1 ∨ l.head? ≠ some 48) → Lib.decDigits (fv 0 l) = l
  | 0, l, hn, hne, _, _ => absurd (List.eq_nil_of_length_eq_zero hn) hne
  | n + 1, l, hn, hne, hd, hh => by
    rcases List.eq_nil_or_concat l with rfl | ⟨p, c, hpc⟩
    · exact absurd rfl hne
    · rw [List.concat_eq_append] at hpc
      subst hpc
      have hc := hd c (by simp)
      unfold isD at hc
      have ec : UInt8.ofNat (48 + (c.toNat - 48)) = c := by rw [show 48 + (c.toNat - 48) = c.toNat by omega]; exact UInt8.ofNat_toNat
      rw [fv_append]
      cases p with
      | nil =>
        simp only [fv, List.foldl_nil, List.nil_append]
        rw [Lib.decDigits_one (by omega), Nat.zero_mul, Nat.zero_add, ec]
      | cons a t =>
        have hl : ((a :: t) ++ [c]).length ≠ 1 := by simp
        have hh2 : (a :: t).head? ≠ some 48 := by
          rcases hh with hh | hh
          · exact absurd hh hl
          · exact hh
        have ih := dec_form n (a :: t) (by simp at hn ⊢; omega) (by simp) (fun x hx => hd x (List.mem_append.2 (Or.inl hx))) (Or.inr hh2)
        have ha := hd a (by simp)
        unfold isD at ha
        have ha2 : a.toNat ≠ 48 := fun e => hh2 (by
          rw [List.head?_cons]
          congr 1
          exact UInt8.toNat_inj.1 e)
        have hv : 1 ≤ fv 0 (a :: t) := by
          have := fv_ge t (0 * 10 + (a.toNat - 48))
          show 1 ≤ fv (0 * 10 + (a.toNat - 48)) t
          omega
        rw [dec_big (by omega), show (fv 0 (a :: t) * 10 + (c.toNat - 48)) / 10 = fv 0 (a :: t) by omega, show (fv 0 (a :: t) * 10 + (c.toNat - 48)) % 10 = c.toNat - 48 by omega, ih, ec]
/-- What the program answers, and what the document does. -/
def und (l : List UInt8) : Option Nat := match Lib.parseUintB 64 l with | .ok u => if Lib.decDigits u = l then some u else none | _ => none
def okOf (r : Lib.NumEnd Nat) : Option Nat := match r with | .ok u => some u | _ => none
def badHead (l : List UInt8) : Prop := l = [] ∨ 20 < l.length ∨ (1 < l.length ∧ l.head? = some 48)
theorem B64 (l : List UInt8) (h : l ≠ []) : Lib.parseUintB 64 l = Lib.parseUintM M 0 l := by rw [Lib.parseUintB, if_neg h]; rfl
theorem und_bad (l : List UInt8) (h : badHead l) : und l = none := by
  by_cases hne : l = []
  · subst hne; rfl
  · unfold und
    rw [B64 l hne]
    cases hr : Lib.parseUintM M 0 l with
    | ok u =>
      obtain ⟨_, _, hu⟩ := parse_ok l 0 u (by unfold M; omega) hr
      simp only
      rw [if_neg]
      intro e
      have hlen : (Lib.decDigits u).length ≤ 20 := by
        rw [Lib.decDigits_length]
        by_cases h0 : u < 10
        · rw [Lib.nDigits_small h0]; omega
        · exact nd20 u (by omega) (by unfold M at hu; omega)
      rcases h with h | h | ⟨h1, h2⟩
      · exact hne h
      · rw [← e] at h; omega
      · by_cases h0 : u < 10
        · rw [← e, Lib.decDigits_one h0] at h1; simp at h1
        · rw [← e] at h2; exact dec_head u h0 h2
    | _ => rfl
theorem und_good (l : List UInt8) (h : ¬ badHead l) : und l = okOf (Lib.parseUintM M 0 l) := by
  unfold badHead at h
  have hne : l ≠ [] := fun e => h (Or.inl e)
  unfold und okOf
  rw [B64 l hne]
  cases hr : Lib.parseUintM M 0 l with
  | ok u =>
    obtain ⟨e1, e2, _⟩ := parse_ok l 0 u (by unfold M; omega) hr
    have hf := dec_form l.length l rfl hne e2 (by
      by_cases h1 : l.length = 1
      · exact Or.inl h1
      · refine Or.inr (fun e => h (Or.inr (Or.inr ⟨?_, e⟩)))
        have : l.length ≠ 0 := fun e => hne (List.eq_nil_of_length_eq_zero e)
        omega)
    rw [← e1] at hf
    simp only
    rw [if_pos hf]
  | _ => rfl
theorem und_dec (u : Nat) (h : u ≤ M) : und (Lib.decDigits u) = some u := by
  unfold und
  have hv := dec_val u
  rw [B64 _ (dec_ne u), parse_of _ 0 (dec_all u) (by rw [hv]; exact h), hv]
  simp
end Dd
end Go.Proofs.YtmjffngpaoaflaaGreatDoor.Cb
namespace Go.Proofs.YtmjffngpaoaflaaGreatDoor.Cb
open Go.RowKit
set_option maxHeartbeats 400000 in
theorem digit_any (n : Nat) (w : World) (hn : n < 16) :
    Calls Tryz.prog 77 #[.int .i64 (n : Int)] w fun e w' => e = .returned (.string (bs [Cd.dig n])) ∧ Below w.heap.size w w' := by
  by_cases h : n < 10
  · have h1 : (n : Int) < 10 := by omega
    have e : ((Cd.dig n).toNat : Int) = 48 + (n : Int) := by rw [Cd.dig, if_pos h, UInt8.toNat_ofNat']; omega
    have hcv := run_one (Cd.dig n) w
    rw [e] at hcv
    clear e
    go_enter Tryz.func77, Tryz.ntmps77
    go_wp2
    go_ret
    exact ⟨rfl, (Below.refl _ _).alloc (Nat.le_refl _) _⟩
  · have h1 : ¬ (n : Int) < 10 := by omega
    have h2 : (n : Int) < 16 := by omega
    have e : ((Cd.dig n).toNat : Int) = 87 + (n : Int) := by rw [Cd.dig, if_neg h, UInt8.toNat_ofNat']; omega
    have hcv := run_one (Cd.dig n) w
    rw [e] at hcv
    clear e
    go_enter Tryz.func77, Tryz.ntmps77
    go_wp2
    go_ret
    exact ⟨rfl, (Below.refl _ _).alloc (Nat.le_refl _) _⟩
end Go.Proofs.YtmjffngpaoaflaaGreatDoor.Cb
namespace Go.Proofs.YtmjffngpaoaflaaGreatDoor.Cb
open Go.RowKit
def Errs (w : World) : Prop := (∃ tp p, w.var? Tryz.prog "strconv.ErrSyntax" = some #[.iface tp p]) ∧ (∃ tp p, w.var? Tryz.prog "strconv.ErrRange" = some #[.iface tp p])
theorem errs_below {w w' : World} (h : Below w.heap.size w w') (he : Errs w) : Errs w' := by
  obtain ⟨⟨a, b, h1⟩, ⟨c, d, h2⟩⟩ := he
  exact ⟨⟨a, b, var_below h h1⟩, ⟨c, d, var_below h h2⟩⟩
def udV (o : Option Nat) : Value := match o with | some n => .tuple #[.int .u64 (n : Int), .int .i64 0] | none => .tuple #[.int .u64 0, .int .i64 6]
set_option maxHeartbeats 400000 in
set_option maxRecDepth 100000 in
theorem refdec_any (u : Nat) : ∀ (w : World), u < 18446744073709551616 → Calls Tryz.prog 50 #[.int .u64 (u : Int)] w fun e w' => e = .returned (.string (bs (Lib.decDigits u))) ∧ Below w.heap.size w w' := by
  intro w hu
  have u64 : (u : Int) < 18446744073709551616 := by omega
  by_cases h : u < 10
  · have h1 : (u : Int) < 10 := by omega
    have HD := hideIt (fun w => digit_any u w (by omega))
    have e : bs [Cd.dig u] = bs (Lib.decDigits u) := by rw [Lib.decDigits_one h, Cd.dig, if_pos h]
    rw [e] at HD
    clear e
    go_enter Tryz.func50, Tryz.ntmps50
    go_wp2_with (first | (go_at_call 77; refine (HD.out _).mono ?_; rintro e w1 ⟨rfl, hb1⟩))
    go_ret
    exact ⟨rfl, hb1⟩
  · have h1 : ¬ (u : Int) < 10 := by omega
    have h1d : decide ((u : Int) < 10) = false := decide_eq_false h1
    have ih := refdec_any (u / 10)
    obtain ⟨q, hq⟩ : ∃ q, u / 10 = q := ⟨_, rfl⟩
    obtain ⟨r, hr⟩ : ∃ r, u % 10 = r := ⟨_, rfl⟩
    rw [hq] at ih
    have HI := hideIt (fun w => ih w (by omega))
    have HD := hideIt (fun w => digit_any r w (by omega))
    have q1 : (u : Int) / 10 = (q : Int) := by omega
    have r1 : (u : Int) % 10 = (r : Int) := by omega
    have r2 : (r : Int) < 10 := by omega
    have q2 : q < 18446744073709551616 := by omega
    obtain ⟨a, ha⟩ : ∃ a, bs (Lib.decDigits q) = a := ⟨_, rfl⟩
    obtain ⟨b, hb⟩ : ∃ b, bs [Cd.dig r] = b := ⟨_, rfl⟩
    rw [ha] at HI
    rw [hb] at HD
    have HE : Hid (bs (Lib.decDigits u) = a ++ b) := hideIt (by rw [Dd.dec_big h, hq, hr, ← ha, ← hb, bs_append, Cd.dig, if_pos (by omega)])
    have sa : a.size ≤ 20 := by
      rw [← ha, bs_size, Lib.decDigits_length]
      exact nd20 q (by omega) q2
    have sb : b.size ≤ 1 := by rw [← hb, bs_size]; simp
    have t1 : ¬ 9223372036854775807 < a.size + b.size := by omega
    clear ih hq hr ha hb
    go_enter Tryz.func50, Tryz.ntmps50
    go_wp2_with (first | (go_at_call 50; refine (HI.out _).mono ?_; rintro e w1 ⟨rfl, hb1⟩) | (go_at_call 77; refine (HD.out _).mono ?_; rintro e w2 ⟨rfl, hb2⟩))
    go_ret
    exact ⟨by rw [HE.out]; rfl, below2 hb1 hb2⟩
  termination_by u
  decreasing_by omega
theorem parse_fine (s : ByteArray) (u : Nat) (w : World) (hs : s.size ≤ 1000000) (h : Lib.parseUintB 64 s.data.toList = .ok u) :
    Calls Tryz.prog 82 #[.string s, .int .i64 10, .int .i64 64] w fun e w' => e = .returned (.tuple #[.int .u64 (u : Int), .nilIface]) ∧ Below w.heap.size w w' := by
  refine (Any.strconv_ParseUint_10_at64_ok Tryz.laysPu14 s (by omega) u h w).mono ?_
  rintro e w' ⟨rfl, rfl | rfl⟩
  · exact ⟨rfl, Below.refl _ _⟩
  · exact ⟨rfl, Lib.bytesWorld_below _ _ _⟩
theorem parse_bad (s : ByteArray) (w : World) (hs : s.size ≤ 1000000) (he : Errs w) (h : ∀ u, Lib.parseUintB 64 s.data.toList ≠ .ok u) :
    Calls Tryz.prog 82 #[.string s, .int .i64 10, .int .i64 64] w fun e w' => ∃ (z : Int) (N : Nat), e = .returned (.tuple #[.int .u64 z, .iface 152 (.pointer (some ⟨N, 0, none⟩))]) ∧ Below w.heap.size w w' := by
  obtain ⟨⟨a, b, h1⟩, ⟨c, d, h2⟩⟩ := he
  cases hr : Lib.parseUintB 64 s.data.toList with
  | ok u => exact absurd hr (h u)
  | range =>
    refine (Any.strconv_ParseUint_10_at64_range_var Tryz.laysPu14 s (by omega) hr c d w h2).mono ?_
    rintro e w' ⟨N, rfl, _, _, hb⟩
    exact ⟨_, N, rfl, hb⟩
  | _ =>
    refine (Any.strconv_ParseUint_10_at64_syntax_var Tryz.laysPu14 s (by omega) hr a b w h1).mono ?_
    rintro e w' ⟨N, rfl, _, _, hb⟩
    exact ⟨0, N, rfl, hb⟩
set_option maxHeartbeats 400000 in
set_option maxRecDepth 100000 in
theorem undec_any (s : ByteArray) (w : World) (hs : s.size ≤ 1000000) (ht : Tab w) (he : Errs w) :
    Calls Tryz.prog 58 #[.string s] w fun e w' => e = .returned (udV (Dd.und s.data.toList)) ∧ Below w.heap.size w w' := by
  have HT := hideIt ht
  by_cases hex : ∃ u, Lib.parseUintB 64 s.data.toList = .ok u
  · obtain ⟨u, hu⟩ := hex
    have hne : s.data.toList ≠ [] := fun e => by rw [e] at hu; cases hu
    have hul : u < 18446744073709551616 := by
      have h2 := hu
      rw [Dd.B64 _ hne] at h2
      have := (Dd.parse_ok _ 0 u (by unfold Dd.M; omega) h2).2.2
      unfold Dd.M at this
      omega
    have u64 : (u : Int) < 18446744073709551616 := by omega
    have HP := hideIt (fun w => parse_fine s u w hs hu)
    have HD := hideIt (fun w h => dec_any u w hul h)
    obtain ⟨x, hx⟩ : ∃ x, bs (Lib.decDigits u) = x := ⟨_, rfl⟩
    rw [hx] at HD
    by_cases hq : Lib.decDigits u = s.data.toList
    · have hxs : x = s := by rw [← hx, hq, bs_data]
      subst hxs
      have HE : Hid (Dd.und x.data.toList = some u) := hideIt (by unfold Dd.und; rw [hu]; simp only; rw [if_pos hq])
      have n1 : (x.toList == x.toList) = true := by simp
      have n2 : (x.toList != x.toList) = false := by simp
      clear hu hx hq ht he hne
      go_enter Tryz.func58, Tryz.ntmps58
      go_wp2_with (first | (go_at_call 82; refine (HP.out _).mono ?_; rintro e w1 ⟨rfl, hb1⟩) | (go_at_call 39; refine (HD.out _ (tab_below hb1 HT.out)).mono ?_; rintro e w2 ⟨rfl, hb2⟩))
      go_ret2
      exact ⟨by rw [HE.out]; rfl, below2 hb1 hb2⟩
    · have HE : Hid (Dd.und s.data.toList = none) := hideIt (by unfold Dd.und; rw [hu]; simp only; rw [if_neg hq])
      have n1 : (x.toList == s.toList) = false := by rw [ByteArray.toList_eq, ByteArray.toList_eq, ← hx, bs_list]; simpa using hq
      have n2 : (x.toList != s.toList) = true := by rw [bne, n1]; rfl
      clear hu hx hq ht he hne
      go_enter Tryz.func58, Tryz.ntmps58
      go_wp2_with (first | (go_at_call 82; refine (HP.out _).mono ?_; rintro e w1 ⟨rfl, hb1⟩) | (go_at_call 39; refine (HD.out _ (tab_below hb1 HT.out)).mono ?_; rintro e w2 ⟨rfl, hb2⟩))
      go_ret2
      exact ⟨by rw [HE.out]; rfl, below2 hb1 hb2⟩
  · have HP := hideIt (parse_bad s w hs he (fun u h => hex ⟨u, h⟩))
    have HE : Hid (Dd.und s.data.toList = none) := hideIt (by
      unfold Dd.und
      cases hr : Lib.parseUintB 64 s.data.toList with
      | ok u => exact absurd ⟨u, hr⟩ hex
      | _ => rfl)
    clear hex ht he
    go_enter Tryz.func58, Tryz.ntmps58
    go_wp2_with (first | (go_at_call 82; refine HP.out.mono ?_; rintro e w1 ⟨z, N, rfl, hb1⟩))
    go_ret2
    exact ⟨by rw [HE.out]; rfl, hb1⟩
end Go.Proofs.YtmjffngpaoaflaaGreatDoor.Cb
namespace Go.Proofs.YtmjffngpaoaflaaGreatDoor.Cb
open Go.RowKit
theorem and15 : ∀ b : Fin 256, bits .and .u8 (b.val : Int) 15 = ((b.val % 16 : Nat) : Int) := by decide +kernel
theorem and15' (x : UInt8) : bits .and .u8 (x.toNat : Int) 15 = ((x.toNat % 16 : Nat) : Int) := and15 ⟨x.toNat, x.toNat_lt⟩
def hexes : ByteArray := { data := #[48, 49, 50, 51, 52, 53, 54, 55, 56, 57, 97, 98, 99, 100, 101, 102] }
theorem hexes_at : ∀ j : Fin 16, (hexes.data.toList.getD j.val 0) = Cd.dig j.val := by decide
theorem hexAt (m : Int) (k : Nat) (h : m = (k : Int)) (hk : k < 16) (hp : m.toNat < hexes.size) : Value.int .u8 ((hexes[m.toNat]'hp).toNat : Int) = .int .u8 ((Cd.dig k).toNat : Int) := by
  subst h
  have := hexes_at ⟨k, hk⟩
  rw [← this, List.getD, List.getElem?_eq_getElem (by rw [str_len]; exact hp)]
  rfl
theorem two_cells (w : World) (x y : UInt8) (X Y : Value) (hx : X = .int .u8 (x.toNat : Int)) (hy : Y = .int .u8 (y.toNat : Int)) (j : Nat) (u : Value) (h : (u8s [x, y])[j]? = some u) :
    (w.alloc (.cells #[X, Y] 5)).cell? ((⟨w.heap.size, 0, none⟩ : Addr).add j) = some u := by
  subst hx hy
  rw [Addr.add_lit, Nat.zero_add, World.cell?_alloc_at _ _ _ _ rfl]
  match j, h with
  | 0, h => simpa [u8s] using h
  | 1, h => simpa [u8s] using h
theorem hexL_take (l : List UInt8) (k : Nat) (h : k < l.length) : Cd.hexL (l.take (k + 1)) = Cd.hexL (l.take k) ++ [Cd.dig ((l[k]).toNat / 16), Cd.dig ((l[k]).toNat % 16)] := by
  rw [List.take_succ_eq_append_getElem h, Cd.hexL_append]
  rfl
theorem hex_step {s : ByteArray} {w wr w2 : World} {o : Obj} {k : Nat} {v v' : Value} (a3 : k < s.size) (hown : wr.ownsRow w.heap.size 5 1 v (2 * k) (u8s (Cd.hexL (s.data.toList.take k)))) (hb : Below w.heap.size w wr)
    (h2 : w2.ownsRow w.heap.size 5 1 v' (2 * k + 2) (u8s (Cd.hexL (s.data.toList.take k)) ++ u8s [Cd.dig (s[k].toNat / 16), Cd.dig (s[k].toNat % 16)])) (hg : (wr.alloc o).drew.grownBy w2 v.ownBlock) :
    w2.ownsRow w.heap.size 5 1 v' (2 * (k + 1)) (u8s (Cd.hexL (s.data.toList.take (k + 1)))) ∧ Below w.heap.size w w2 := by
  have hl : k < s.data.toList.length := by rw [str_len]; exact a3
  refine ⟨?_, ((hb.alloc hb.size o).drew).grown hg (by have := hb.size; simp; omega) (own_ge hown)⟩
  rw [hexL_take _ _ hl, u8s_append]
  exact h2
set_option maxHeartbeats 800000 in
set_option maxRecDepth 100000 in
theorem hex_any (s : ByteArray) (w : World) (hs : s.size ≤ 400) :
    Calls Tryz.prog 38 #[.string s] w fun e w' => e = .returned (.string (bs (Cd.hexL s.data.toList))) ∧ Below w.heap.size w w' := by
  obtain ⟨n, hn⟩ : ∃ n, s.size = n := ⟨_, rfl⟩
  have hni : (s.size : Int) = (n : Int) := by rw [hn]
  obtain ⟨i0, hi0, hz0, hz1, hz2⟩ := info_parts infoB
  go_enter Tryz.func38, Tryz.ntmps38
  go_wp2_with (first | (refine wpList_make_own _ rfl _ _ 97 rfl w.heap.size 5 i0 (.int .u8 0) 1 Tryz.underlying97 hi0 hz0 hz1 _ _ _ (2 * n) rfl rfl (by omega) (by rw [hz2]; omega) (by unfold maxLen; omega) (Nat.le_refl _) ?_; intro w1 hown1 hg1))
  go_loopw [3, 11] (fun v t wr => ∃ k : Nat, k ≤ n ∧ t = .int .i64 k ∧ wr.ownsRow w.heap.size 5 1 v (2 * k) (u8s (Cd.hexL (s.data.toList.take k))) ∧ Below w.heap.size w wr) (fun _ t _ => n - (intOf t).toNat)
  case atStart => exact ⟨0, by omega, rfl, hown1, (Below.refl _ _).grown hg1 (Nat.le_refl _) (by simp)⟩
  case round =>
    obtain ⟨k, hk, rfl, hown, hb⟩ := hrel
    by_cases hlt : k < n
    · have hid : decide ((k : Int) < (n : Int)) = true := by simp; omega
      have a1 : (0 : Int) ≤ (k : Int) := by omega
      have a2 : (k : Int) < (s.size : Int) := by omega
      have a3 : k < s.size := by omega
      have hbl := s[k].toNat_lt
      have d1 : (0 : Int) ≤ ((s[k].toNat : Nat) : Int) / 16 := by omega
      have d2 : ((s[k].toNat : Nat) : Int) / 16 < 16 := by omega
      have e15 := and15' s[k]
      have d3 : (0 : Int) ≤ ((s[k].toNat : Nat) : Int) % 16 := by omega
      have d4 : ((s[k].toNat : Nat) : Int) % 16 < 16 := by omega
      go_wp2_with (fail)
      go_region_law (refine step_append_own rfl _ _ 97 rfl w.heap.size 5 i0 (.int .u8 0) 1 1 Tryz.underlying97 hi0 hz0 hz1 hz2 rfl (by decide) u3 _ _ rfl (hown.drew.alloc _) ⟨wr.heap.size, 0, none⟩ 2 2 (u8s [Cd.dig (s[k].toNat / 16), Cd.dig (s[k].toNat % 16)]) rfl rfl (two_cells wr.drew _ _ _ _ (hexAt _ _ (by omega) (by omega) _) (hexAt _ _ (by omega) (by omega) _)) (u8s_one _) (by unfold maxLen; omega) (by omega) (by have := hb.size; simp; omega) ?_; intro v' w2 hown2 hg2)
      all_goals (have R := hex_step a3 hown hb hown2 hg2; clear hown2 hg2 hown hb)
      all_goals go_wp2
      all_goals go_roundw
      all_goals first | exact ⟨k + 1, by omega, by go_num, R.1, R.2⟩ | (simp [intOf]; omega)
    · obtain rfl : k = n := by omega
      have ht : s.data.toList.take k = s.data.toList := List.take_of_length_le (by rw [str_len]; omega)
      rw [ht] at hown
      have hcv := run_own hown
      go_wp2
      go_ret
      exact ⟨rfl, hb⟩
end Go.Proofs.YtmjffngpaoaflaaGreatDoor.Cb
namespace Go.Proofs.YtmjffngpaoaflaaGreatDoor.Cb
open Go.RowKit
set_option maxHeartbeats 400000 in
set_option maxRecDepth 100000 in
theorem idx_in (s : ByteArray) (c : Int) (w : World) :
    Calls Tryz.prog 118 #[.string s, .int .u8 c] w fun e w' => e = .returned (.int .i64 (Lib.indexByte s.data.toList c.toNat.toUInt8)) ∧ w' = w := by
  go_enter Tryz.func118, Tryz.ntmps118
  go_wp2
  rw [run_callFunc_extern Tryz.func145 (by kernel_rfl) (by kernel_rfl) (by kernel_rfl) (e := Extern.BytealgIndexByte.indexByte) (by kernel_rfl), Lib.run_indexByteString]
  simp only [Result.andThen]
  rw [Oper.upon_value]
  go_wp2
  go_ret
  exact ⟨rfl, rfl⟩
theorem idx_val : ∀ b : Fin 256, Lib.indexByte hexes.data.toList (UInt8.ofNat b.val) = if Cd.val (UInt8.ofNat b.val) < 16 then (Cd.val (UInt8.ofNat b.val) : Int) else -1 := by decide +kernel
def place (b : UInt8) : Int := if Cd.val b < 16 then (Cd.val b : Int) else -1
theorem place_of (b : UInt8) : Lib.indexByte hexes.data.toList b = place b := by
  have := idx_val ⟨b.toNat, b.toNat_lt⟩
  simp only [UInt8.ofNat_toNat] at this
  exact this
set_option maxHeartbeats 400000 in
theorem idx_any (b : UInt8) (w : World) :
    Calls Tryz.prog 93 #[.string hexes, .int .u8 (b.toNat : Int)] w fun e w' => e = .returned (.int .i64 (place b)) ∧ w' = w := by
  have e1 : ((b.toNat : Int)).toNat.toUInt8 = b := by simp
  have h := idx_in hexes (b.toNat : Int)
  rw [e1, place_of] at h
  have H := hideIt h
  clear h e1
  go_enter Tryz.func93, Tryz.ntmps93
  go_wp2_with (first | (go_at_call 118; refine (H.out _).mono ?_; rintro e w' ⟨rfl, rfl⟩))
  go_ret
  exact ⟨rfl, rfl⟩
end Go.Proofs.YtmjffngpaoaflaaGreatDoor.Cb
namespace Go.Proofs.YtmjffngpaoaflaaGreatDoor.Cb
open Go.RowKit
def unhexV (o : Option (List UInt8)) : Value := match o with | some t => .tuple #[.string (bs t), .int .i64 0] | none => .tuple #[.string ⟨#[]⟩, .int .i64 6]
theorem unhex_odd : ∀ l : List UInt8, l.length % 2 = 1 → Cd.unhexL l = none
  | [], h => by simp at h
  | [_], _ => rfl
  | a :: b :: t, h => by
    rw [Cd.unhexL, unhex_odd t (by simp at h; omega)]
    split <;> rfl
theorem or16 : ∀ a b : Fin 16, bits .or .i64 ((a.val : Int) * 16) (b.val : Int) = ((16 * a.val + b.val : Nat) : Int) := by decide +kernel
structure UnMem (N n k : Nat) (l outs : List UInt8) (w0 w : World) : Prop where
  below : Below N w0 w
  row : w.heap[N]? = some (.cells (rowA (outs ++ List.replicate (n - k) 0)) 5 (0, 0))
  len : outs.length = k
  tells : Cd.unhexL l = (Cd.unhexL (l.drop (2 * k))).map (fun r => outs ++ r)
theorem UnMem.next {N n k : Nat} {l outs : List UInt8} {w0 w : World} (h : UnMem N n k l outs w0 w) (hk : k < n) {a b : UInt8} (hd : l.drop (2 * k) = a :: b :: l.drop (2 * (k + 1))) (ha : Cd.val a < 16) (hb : Cd.val b < 16) :
    UnMem N n (k + 1) l (outs ++ [UInt8.ofNat (16 * Cd.val a + Cd.val b)]) w0 (w.setCell ⟨N, k, none⟩ (.int .u8 ((UInt8.ofNat (16 * Cd.val a + Cd.val b)).toNat : Int))) := by
  refine ⟨h.below.setCell (p := ⟨N, k, none⟩) (Nat.le_refl _) _, ?_, by simp [h.len], ?_⟩
  · rw [row_put _ h.row]
    congr 3
    rw [List.set_append_right _ _ (by rw [h.len]; omega), h.len, Nat.sub_self, show n - k = (n - (k + 1)) + 1 by omega, List.replicate_succ, List.set_cons_zero, List.append_assoc]
    rfl
  · rw [h.tells, hd, Cd.unhexL, if_pos ⟨ha, hb⟩]
    cases Cd.unhexL (l.drop (2 * (k + 1))) <;> simp
theorem UnMem.stop {N n k : Nat} {l outs : List UInt8} {w0 w : World} (h : UnMem N n k l outs w0 w) {a b : UInt8} (hd : l.drop (2 * k) = a :: b :: l.drop (2 * (k + 1))) (hv : ¬ (Cd.val a < 16 ∧ Cd.val b < 16)) : Cd.unhexL l = none := by
  rw [h.tells, hd, Cd.unhexL, if_neg hv]
  rfl
theorem UnMem.fin {N n : Nat} {l outs : List UInt8} {w0 w : World} (h : UnMem N n n l outs w0 w) (hl : l.length = 2 * n) : Cd.unhexL l = some outs := by
  rw [h.tells, List.drop_of_length_le (by omega)]
  simp [Cd.unhexL]
theorem place_good {b : UInt8} (h : Cd.val b < 16) : place b = (Cd.val b : Int) := if_pos h
theorem place_bad {b : UInt8} (h : ¬ Cd.val b < 16) : place b = -1 := if_neg h
theorem drop_two (s : ByteArray) (k p : Nat) (hp : p = 2 * k) (h1 : p < s.size) (h2 : p + 1 < s.size) : s.data.toList.drop (2 * k) = s[p] :: s[p + 1] :: s.data.toList.drop (2 * (k + 1)) := by
  subst hp
  rw [List.drop_eq_getElem_cons (by rw [str_len]; exact h1), List.drop_eq_getElem_cons (by rw [str_len]; exact h2)]
  rfl
set_option maxHeartbeats 800000 in
set_option maxRecDepth 100000 in
theorem unhex_any (s : ByteArray) (w : World) (hs : s.size ≤ 1000000) :
    Calls Tryz.prog 74 #[.string s] w fun e w' => e = .returned (unhexV (Cd.unhexL s.data.toList)) ∧ Below w.heap.size w w' := by
  by_cases hodd : s.size % 2 = 1
  · have a0 : (s.size : Int) % 2 = 1 := by omega
    rw [unhex_odd _ (by rw [str_len]; exact hodd)]
    go_enter Tryz.func74, Tryz.ntmps74
    go_wp2
    go_ret2
    exact ⟨rfl, Below.refl _ _⟩
  · obtain ⟨n, hn⟩ : ∃ n, s.size = 2 * n := ⟨s.size / 2, by omega⟩
    have a0 : (s.size : Int) % 2 = 0 := by omega
    have a1 : (s.size : Int) / 2 = (n : Int) := by omega
    have hmk := run_make_bytes .i64 n (by omega)
    have HN := hideIt hn
    clear hn
    go_enter Tryz.func74, Tryz.ntmps74
    go_wp2
    go_loopw [18] (fun t wr => ∃ k : Nat, k ≤ n ∧ t = .int .i64 k ∧ ∃ outs, UnMem w.heap.size n k s.data.toList outs w wr) (fun t _ => n - (intOf t).toNat)
    case atStart => exact ⟨0, by omega, rfl, [], (Below.refl _ _).alloc (Nat.le_refl _) _, alloc_at rfl, rfl, by simp⟩
    case round =>
      obtain ⟨k, hk, rfl, outs, hm⟩ := hrel
      clear a0 a1
      by_cases hlt : k < n
      · have hid : decide ((k : Int) < (n : Int)) = true := by simp; omega
        obtain ⟨p, hp⟩ : ∃ p, p = 2 * k := ⟨_, rfl⟩
        have hp1 : p < s.size := by rw [HN.out]; omega
        have hp2 : p + 1 < s.size := by rw [HN.out]; omega
        have b0 : (2 : Int) * (k : Int) = (p : Int) := by omega
        have b1 : (0 : Int) ≤ (p : Int) := by omega
        have b2 : (p : Int) < (s.size : Int) := by omega
        have b3 : (0 : Int) ≤ (p : Int) + 1 := by omega
        have b4 : (p : Int) + 1 < (s.size : Int) := by omega
        have hd := drop_two s k p hp hp1 hp2
        obtain ⟨a, ha⟩ : ∃ a, s[p] = a := ⟨_, rfl⟩
        obtain ⟨b, hb⟩ : ∃ b, s[p + 1] = b := ⟨_, rfl⟩
        rw [ha, hb] at hd
        have HP := hideIt hp
        clear hp
        by_cases hv : Cd.val a < 16 ∧ Cd.val b < 16
        · have HA := hideIt (idx_any a)
          have HB := hideIt (idx_any b)
          rw [place_good hv.1] at HA
          rw [place_good hv.2] at HB
          have HM := hideIt (hm.next hlt hd hv.1 hv.2)
          obtain ⟨x, hx⟩ : ∃ x, Cd.val a = x := ⟨_, rfl⟩
          obtain ⟨y, hy⟩ : ∃ y, Cd.val b = y := ⟨_, rfl⟩
          rw [hx] at HA hv
          rw [hy] at HB hv
          rw [hx, hy] at HM
          have da : decide ((x : Int) < 0) = false := decide_eq_false (by omega)
          have db : decide ((y : Int) < 0) = false := decide_eq_false (by omega)
          obtain ⟨v, hvv⟩ : ∃ v, UInt8.ofNat (16 * x + y) = v := ⟨_, rfl⟩
          have hvn : v.toNat = 16 * x + y := by rw [← hvv, UInt8.toNat_ofNat']; omega
          have eor : bits .or .i64 ((x : Int) * 16) (y : Int) = (v.toNat : Int) := by rw [hvn]; exact or16 ⟨x, hv.1⟩ ⟨y, hv.2⟩
          rw [hvv] at HM
          obtain ⟨z, c1⟩ : ∃ z : Int, wr.cell? ⟨w.heap.size, k, none⟩ = some (.int .u8 z) := ⟨_, by rw [cell_of_row _ _ k _ _ _ hm.row, rowA_at _ _ (by simp [hm.len]; omega)]⟩
          have hf : wr.frozen? ⟨w.heap.size, k, none⟩ = false := by simp [World.frozen?, hm.row]
          have vl := v.toNat_lt
          have v2 : (v.toNat : Int) < 256 := by omega
          have v3 : (0 : Int) ≤ (v.toNat : Int) := by omega
          have x1 : (x : Int) < 16 := by omega
          have y1 : (y : Int) < 16 := by omega
          clear hx hy hvv hvn hd hm hv
          go_wp2_with (first | (go_at_call_of 93 (Value.int .u8 (a.toNat : Int)); refine (HA.out _).mono ?_; rintro e w1 ⟨rfl, rfl⟩) | (go_at_call 93; refine (HB.out _).mono ?_; rintro e w1 ⟨rfl, rfl⟩))
          go_roundw
          case rel => exact ⟨k + 1, by omega, by go_num, _, HM.out⟩
          case measure => simp [intOf]; omega
        · have HU := hideIt (hm.stop hd hv)
          have HW := hideIt hm.below
          have HA := hideIt (idx_any a)
          have HB := hideIt (idx_any b)
          by_cases hva : Cd.val a < 16
          · have hvb : ¬ Cd.val b < 16 := fun h => hv ⟨hva, h⟩
            rw [place_good hva] at HA
            rw [place_bad hvb] at HB
            obtain ⟨x, hx⟩ : ∃ x, Cd.val a = x := ⟨_, rfl⟩
            rw [hx] at HA
            have da : decide ((x : Int) < 0) = false := decide_eq_false (by omega)
            clear hx hd hm hv hva hvb
            go_wp2_with (first | (go_at_call_of 93 (Value.int .u8 (a.toNat : Int)); refine (HA.out _).mono ?_; rintro e w1 ⟨rfl, rfl⟩) | (go_at_call 93; refine (HB.out _).mono ?_; rintro e w1 ⟨rfl, rfl⟩))
            go_ret2
            exact ⟨by rw [HU.out]; rfl, HW.out⟩
          · rw [place_bad hva] at HA
            obtain ⟨y, hy⟩ : ∃ y, place b = y := ⟨_, rfl⟩
            rw [hy] at HB
            clear hy hd hm hv hva
            go_wp2_with (first | (go_at_call_of 93 (Value.int .u8 (a.toNat : Int)); refine (HA.out _).mono ?_; rintro e w1 ⟨rfl, rfl⟩) | (go_at_call 93; refine (HB.out _).mono ?_; rintro e w1 ⟨rfl, rfl⟩))
            go_ret2
            exact ⟨by rw [HU.out]; rfl, HW.out⟩
      · obtain rfl : k = n := by omega
        have e := hm.fin (by rw [str_len]; exact HN.out)
        have hr := hm.row
        rw [Nat.sub_self, List.replicate_zero, List.append_nil] at hr
        have hcv := run_row outs wr w.heap.size 5 hr k
        rw [hm.len] at hcv
        have HE := hideIt e
        have HW := hideIt hm.below
        clear hm hr e
        go_wp2
        go_ret2
        exact ⟨by rw [HE.out]; rfl, HW.out⟩
end Go.Proofs.YtmjffngpaoaflaaGreatDoor.Cb
namespace Go.Proofs.YtmjffngpaoaflaaGreatDoor.Cb
open Go.RowKit
theorem wrap_small (x : Int) (h0 : 0 ≤ x) (h1 : x < 9223372036854775808) : IntKind.i64.wrap x = x := by rw [IntKind.wrap_i64]; omega
theorem tdiv_nat (b x : Nat) (c : Int) (h : (b : Int) / c = (x : Int)) : (b : Int).tdiv c = (x : Int) := by rw [Int.tdiv_eq_ediv_of_nonneg (by omega)]; exact h
theorem tmod_nat (b x : Nat) (c : Int) (h : (b : Int) % c = (x : Int)) : (b : Int).tmod c = (x : Int) := by rw [Int.tmod_eq_emod_of_nonneg (by omega)]; exact h
set_option maxHeartbeats 800000 in
set_option maxRecDepth 100000 in
theorem refhex_any (s : ByteArray) (w : World) (hs : s.size ≤ 400) :
    Calls Tryz.prog 49 #[.string s] w fun e w' => e = .returned (.string (bs (Cd.hexL s.data.toList))) ∧ Below w.heap.size w w' := by
  obtain ⟨n, hn⟩ : ∃ n, s.size = n := ⟨_, rfl⟩
  have hni : (s.size : Int) = (n : Int) := by rw [hn]
  go_enter Tryz.func49, Tryz.ntmps49
  go_wp2
  go_loopw [3, 4] (fun v t wr => ∃ k : Nat, k ≤ n ∧ t = .int .i64 k ∧ (∃ u : ByteArray, v = .string u ∧ u.data.toList = Cd.hexL (s.data.toList.take k)) ∧ Below w.heap.size w wr) (fun _ t _ => n - (intOf t).toNat)
  case atStart => exact ⟨0, by omega, rfl, ⟨_, rfl, rfl⟩, Below.refl _ _⟩
  case round =>
    obtain ⟨k, hk, rfl, ⟨u, rfl, hu⟩, hb⟩ := hrel
    by_cases hlt : k < n
    · have hid : decide ((k : Int) < (n : Int)) = true := by simp; omega
      have a1 : (0 : Int) ≤ (k : Int) := by omega
      have a2 : (k : Int) < (s.size : Int) := by omega
      have a3 : k < s.size := by omega
      have hbl := s[k].toNat_lt
      obtain ⟨x, hx⟩ : ∃ x, s[k].toNat / 16 = x := ⟨_, rfl⟩
      obtain ⟨y, hy⟩ : ∃ y, s[k].toNat % 16 = y := ⟨_, rfl⟩
      have q1 : ((s[k].toNat : Nat) : Int) / 16 = (x : Int) := by omega
      have q2 : ((s[k].toNat : Nat) : Int) % 16 = (y : Int) := by omega
      have r1 := wrap_small ((s[k].toNat : Nat) : Int) (by omega) (by omega)
      have r2 := tdiv_nat s[k].toNat x 16 q1
      have r3 := tmod_nat s[k].toNat y 16 q2
      have r4 := wrap_small (x : Int) (by omega) (by omega)
      have r5 := wrap_small (y : Int) (by omega) (by omega)
      obtain ⟨d1, hd1⟩ : ∃ d, bs [Cd.dig x] = d := ⟨_, rfl⟩
      obtain ⟨d2, hd2⟩ : ∃ d, bs [Cd.dig y] = d := ⟨_, rfl⟩
      have HX := hideIt (fun w => digit_any x w (by omega))
      have HY := hideIt (fun w => digit_any y w (by omega))
      rw [hd1] at HX
      rw [hd2] at HY
      have s1 : d1.size ≤ 1 := by rw [← hd1, bs_size]; simp
      have s2 : d2.size ≤ 1 := by rw [← hd2, bs_size]; simp
      have s4 : u.size ≤ 1000 := by rw [← str_len, hu, Cd.hexL_len, List.length_take, str_len]; omega
      have s5 : ¬ 9223372036854775807 < d1.size + d2.size := by omega
      have s6 : ¬ 9223372036854775807 < u.size + (d1.size + d2.size) := by omega
      have HE : Hid ((u ++ (d1 ++ d2)).data.toList = Cd.hexL (s.data.toList.take (k + 1))) := by
        refine hideIt ?_
        rw [cat_data, cat_data, hu, ← hd1, ← hd2, bs_list, bs_list, hexL_take _ _ (by rw [str_len]; exact a3), ← hx, ← hy]
        rfl
      have HB := hideIt hb
      have HS : Hid (Below w.heap.size w wr.drew) := hideIt hb.drew
      clear hx hy hd1 hd2 hu hb
      go_wp2
      go_region_held3 (fun w' => Below w.heap.size w w') (first | (exact HS.out) | assumption | (exact below2 (by assumption) hb1)) (first | (go_at_call_of 77 (Value.int .i64 (x : Int)); refine (HX.out _).mono ?_; rintro e w1 ⟨rfl, hb1⟩) | (go_at_call_of 77 (Value.int .i64 (y : Int)); refine (HY.out _).mono ?_; rintro e w1 ⟨rfl, hb1⟩))
      all_goals go_wp2
      all_goals go_roundw
      all_goals first | exact ⟨k + 1, by omega, by go_num, ⟨_, rfl, HE.out⟩, by assumption⟩ | (simp [intOf]; omega)
    · obtain rfl : k = n := by omega
      have ht : s.data.toList.take k = s.data.toList := List.take_of_length_le (by rw [str_len]; omega)
      rw [ht] at hu
      have HE : Hid (bs (Cd.hexL s.data.toList) = u) := hideIt (by rw [← hu, bs_data])
      clear hu ht
      go_wp2
      go_ret
      exact ⟨by rw [HE.out]; rfl, hb⟩
end Go.Proofs.YtmjffngpaoaflaaGreatDoor.Cb
