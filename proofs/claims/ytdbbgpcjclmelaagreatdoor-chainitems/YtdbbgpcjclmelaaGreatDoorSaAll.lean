/- The sums of SHA-256 as plain functions on words of 32 bits, and how the model's numbers of that kind come to them. The leaf functions of the sums, walked: what each answers, of any words; nothing in memory turns. The words of a block for each round, walked. One block more, walked. The tables of the sums, walked: both come back whole, and nothing that lay in memory turns. What comes behind all bytes, walked. Words as bytes, walked. A state of the sums and the bytes that it has taken in: plain lists and functions. Taking in bytes, walked. The sum of all that was taken in, and of any text, walked. The document's own sum, walked. The sums of the two blobs of the waking test, reckoned step by step: each step is checked by the kernel. -/
import Derived.WalkKit
import Derived.WalkSpells
import Derived.WalkLawsBesides
import Derived.Laws.CopyOwn
import Derived.Test.YtdbbgpcjclmelaaGreatDoorRows
import Derived.Deep.RegionHeld3
import Derived.Deep.MidRow
import Derived.Deep.LoopGhost
import Derived.BigRegion
namespace Go.Proofs.YtdbbgpcjclmelaaGreatDoor.Sa
namespace Sha
def rotr (x : BitVec 32) (n : Nat) : BitVec 32 := (x >>> n) ||| (x <<< (32 - n))
def bs0 (x : BitVec 32) : BitVec 32 := rotr x 2 ^^^ rotr x 13 ^^^ rotr x 22
def bs1 (x : BitVec 32) : BitVec 32 := rotr x 6 ^^^ rotr x 11 ^^^ rotr x 25
def ss0 (x : BitVec 32) : BitVec 32 := rotr x 7 ^^^ rotr x 18 ^^^ (x >>> 3)
def ss1 (x : BitVec 32) : BitVec 32 := rotr x 17 ^^^ rotr x 19 ^^^ (x >>> 10)
def ch (x y z : BitVec 32) : BitVec 32 := (x &&& y) ^^^ (~~~x &&& z)
def maj (x y z : BitVec 32) : BitVec 32 := (x &&& y) ^^^ (x &&& z) ^^^ (y &&& z)

theorem ofInt_nat (x : BitVec 32) : BitVec.ofInt 32 (x.toNat : Int) = x := by
  apply BitVec.eq_of_toNat_eq
  rw [Go.ofInt_u32 _ x.isLt]
theorem b_and (x y : BitVec 32) : bits .and .u32 (x.toNat : Int) (y.toNat : Int) = ((x &&& y).toNat : Int) := by
  rw [Go.u32_and_nat _ _ x.isLt y.isLt, BitVec.toNat_and]
theorem b_or (x y : BitVec 32) : bits .or .u32 (x.toNat : Int) (y.toNat : Int) = ((x ||| y).toNat : Int) := by
  rw [Go.u32_or_nat _ _ x.isLt y.isLt, BitVec.toNat_or]
theorem b_xor (x y : BitVec 32) : bits .xor .u32 (x.toNat : Int) (y.toNat : Int) = ((x ^^^ y).toNat : Int) := by
  rw [Go.u32_xor_nat _ _ x.isLt y.isLt, BitVec.toNat_xor]
theorem b_add (x y : BitVec 32) : ((x.toNat : Int) + (y.toNat : Int)) % 4294967296 = ((x + y).toNat : Int) := by
  rw [BitVec.toNat_add]; simp
theorem w_add (x y : BitVec 32) : IntKind.u32.wrap ((x.toNat : Int) + (y.toNat : Int)) = ((x + y).toNat : Int) := by
  rw [Go.IntKind.wrap_u32', b_add]
theorem b_shr (x : BitVec 32) (n : Nat) : (x.toNat : Int) / 2 ^ n = ((x >>> n).toNat : Int) := by
  rw [BitVec.toNat_ushiftRight, Nat.shiftRight_eq_div_pow]; simp
theorem b_shl (x : BitVec 32) (n : Nat) : (x.toNat : Int) * 2 ^ n % 4294967296 = ((x <<< n).toNat : Int) := by
  rw [BitVec.toNat_shiftLeft, Nat.shiftLeft_eq]; simp
theorem b_not (x : BitVec 32) : bits .xor .u32 IntKind.u32.max (x.toNat : Int) = ((~~~x).toNat : Int) := by
  have h : IntKind.u32.max = (((4294967295#32 : BitVec 32).toNat : Nat) : Int) := by decide
  rw [h, b_xor]
  congr 2
theorem b_shr' (x : BitVec 32) (n : Nat) (m : Int := 2 ^ n) (h : m = 2 ^ n := by decide) : (x.toNat : Int) / m = ((x >>> n).toNat : Int) := by
  rw [h, b_shr]
theorem turn_val (x : BitVec 32) (n m : Nat) (h : m = 32 - n) (h1 : 1 ≤ n) (h2 : n ≤ 31) :
    ((x.toNat : Int) / 2 ^ n + (x.toNat : Int) * 2 ^ m % 4294967296) % 4294967296 = ((rotr x n).toNat : Int) := by
  subst h
  rw [b_shr, b_shl, b_add, rotr]
  congr 2
  apply BitVec.add_eq_or_of_and_eq_zero
  apply BitVec.eq_of_getLsbD_eq
  intro i hi
  simp only [BitVec.getLsbD_and, BitVec.getLsbD_ushiftRight, BitVec.getLsbD_shiftLeft, BitVec.getLsbD_zero]
  by_cases h : i < 32 - n
  · simp [h]
  · have : x.getLsbD (n + i) = false := BitVec.getLsbD_of_ge _ _ (by omega)
    simp [this]
theorem and31 (n : Nat) (h1 : 1 ≤ n) (h2 : n ≤ 31) : bits .and .u64 (IntKind.u64.wrap (-(n : Int))) 31 = ((32 - n : Nat) : Int) := by
  have : ∀ m : Fin 32, 1 ≤ m.val → bits .and .u64 (IntKind.u64.wrap (-(m.val : Int))) 31 = ((32 - m.val : Nat) : Int) := by decide +kernel
  exact this ⟨n, by omega⟩ h1
/-! Rows of memory that hold words, and bytes. -/
def word (x : BitVec 32) : Value := .int .u32 (x.toNat : Int)
def byte (x : UInt8) : Value := .int .u8 (x.toNat : Int)
def wordsL (n : Nat) (f : Nat → BitVec 32) : List Value := (List.range n).map fun k => word (f k)
def bytesL (n : Nat) (f : Nat → UInt8) : List Value := (List.range n).map fun k => byte (f k)
def wordsA (n : Nat) (f : Nat → BitVec 32) : Array Value := (wordsL n f).toArray
def bytesA (n : Nat) (f : Nat → UInt8) : Array Value := (bytesL n f).toArray
def up {α : Type} (f : Nat → α) (i : Nat) (v : α) : Nat → α := fun k => if k = i then v else f k
theorem wordsA_size (n : Nat) (f : Nat → BitVec 32) : (wordsA n f).size = n := by simp [wordsA, wordsL]
theorem bytesA_size (n : Nat) (f : Nat → UInt8) : (bytesA n f).size = n := by simp [bytesA, bytesL]
theorem wordsA_at (n : Nat) (f : Nat → BitVec 32) (k : Nat) (h : k < n) : (wordsA n f)[k]? = some (.int .u32 ((f k).toNat : Int)) := by
  simp [wordsA, wordsL, h, word]
theorem bytesA_at (n : Nat) (f : Nat → UInt8) (k : Nat) (h : k < n) : (bytesA n f)[k]? = some (.int .u8 ((f k).toNat : Int)) := by
  simp [bytesA, bytesL, h, byte]
theorem wordsA_set (n : Nat) (f : Nat → BitVec 32) (i : Nat) (v : BitVec 32) : (wordsA n f).setIfInBounds i (.int .u32 (v.toNat : Int)) = wordsA n (up f i v) := by
  apply Array.ext_getElem?
  intro k
  rw [Array.getElem?_setIfInBounds]
  simp only [wordsA, wordsL, up, word]
  by_cases hk : i = k
  · subst hk
    by_cases hi : i < n <;> simp [hi]
  · by_cases hi : k < n <;> simp [hi, hk]
    rw [if_neg (fun h => hk h.symm)]
theorem bytesA_set (n : Nat) (f : Nat → UInt8) (i : Nat) (v : UInt8) : (bytesA n f).setIfInBounds i (.int .u8 (v.toNat : Int)) = bytesA n (up f i v) := by
  apply Array.ext_getElem?
  intro k
  rw [Array.getElem?_setIfInBounds]
  simp only [bytesA, bytesL, up, byte]
  by_cases hk : i = k
  · subst hk
    by_cases hi : i < n <;> simp [hi]
  · by_cases hi : k < n <;> simp [hi, hk]
    rw [if_neg (fun h => hk h.symm)]
theorem wordsL_one (n : Nat) (f : Nat → BitVec 32) : ∀ v ∈ wordsL n f, v.oneCell' = true := by
  intro v hv
  simp only [wordsL, List.mem_map] at hv
  obtain ⟨k, _, rfl⟩ := hv
  rfl
theorem bytesL_one (n : Nat) (f : Nat → UInt8) : ∀ v ∈ bytesL n f, v.oneCell' = true := by
  intro v hv
  simp only [bytesL, List.mem_map] at hv
  obtain ⟨k, _, rfl⟩ := hv
  rfl
theorem wordsA_congr {n : Nat} {f g : Nat → BitVec 32} (h : ∀ k, k < n → f k = g k) : wordsA n f = wordsA n g := by
  unfold wordsA wordsL
  congr 1
  apply List.map_congr_left
  intro k hk
  rw [h k (List.mem_range.1 hk)]
theorem bytesA_congr {n : Nat} {f g : Nat → UInt8} (h : ∀ k, k < n → f k = g k) : bytesA n f = bytesA n g := by
  unfold bytesA bytesL
  congr 1
  apply List.map_congr_left
  intro k hk
  rw [h k (List.mem_range.1 hk)]
/-! A block's words. -/
def bePart (b : Nat → UInt8) (i : Nat) : Nat → BitVec 32
  | 0 => 0#32
  | j + 1 => (bePart b i j <<< 8) ||| BitVec.ofNat 32 (b (i * 4 + j)).toNat
def first (b : Nat → UInt8) (i : Nat) : Nat → BitVec 32 := fun k => if k < i then bePart b k 4 else 0#32
def ext (b : Nat → UInt8) : Nat → Nat → BitVec 32
  | 0 => first b 16
  | k + 1 => up (ext b k) (16 + k) (ss1 (ext b k (14 + k)) + ext b k (9 + k) + ss0 (ext b k (1 + k)) + ext b k k)
def plan (b : Nat → UInt8) : Nat → BitVec 32 := ext b 48
theorem first_next (b : Nat → UInt8) (i : Nat) : up (first b i) i (bePart b i 4) = first b (i + 1) := by
  funext k
  simp only [up, first]
  by_cases h : k = i
  · subst h; simp
  · by_cases h2 : k < i
    · simp [h, h2, show k < i + 1 by omega]
    · simp [h, h2, show ¬ k < i + 1 by omega]
theorem first_same (b : Nat → UInt8) (i : Nat) : up (first b i) i (bePart b i 0) = first b i := by
  funext k
  simp only [up, first, bePart]
  by_cases h : k = i
  · subst h; simp
  · simp [h]
theorem up_up {α : Type} (f : Nat → α) (i : Nat) (u v : α) : up (up f i u) i v = up f i v := by
  funext k; simp only [up]; split <;> rfl
theorem be_next (b : Nat → UInt8) (i j : Nat) (x : BitVec 32) (y : UInt8) (hx : x = bePart b i j) (hy : y = b (i * 4 + j)) :
    bits .or .u32 ((x.toNat : Int) * 256 % 4294967296) (y.toNat : Int) = ((bePart b i (j + 1)).toNat : Int) := by
  have e : (x.toNat : Int) * (256 : Int) % (4294967296 : Int) = ((x <<< 8).toNat : Int) := b_shl x 8
  have e2 : (y.toNat : Int) = ((BitVec.ofNat 32 y.toNat).toNat : Int) := by
    rw [BitVec.toNat_ofNat]; have := y.toNat_lt; omega
  rw [e, e2, b_or, hx, hy, bePart]
/-! The rounds. -/
def salts : List Nat := [0x428a2f98, 0x71374491, 0xb5c0fbcf, 0xe9b5dba5, 0x3956c25b, 0x59f111f1, 0x923f82a4, 0xab1c5ed5, 0xd807aa98, 0x12835b01, 0x243185be, 0x550c7dc3, 0x72be5d74, 0x80deb1fe, 0x9bdc06a7, 0xc19bf174, 0xe49b69c1, 0xefbe4786, 0x0fc19dc6, 0x240ca1cc, 0x2de92c6f, 0x4a7484aa, 0x5cb0a9dc, 0x76f988da, 0x983e5152, 0xa831c66d, 0xb00327c8, 0xbf597fc7, 0xc6e00bf3, 0xd5a79147, 0x06ca6351, 0x14292967, 0x27b70a85, 0x2e1b2138, 0x4d2c6dfc, 0x53380d13, 0x650a7354, 0x766a0abb, 0x81c2c92e, 0x92722c85, 0xa2bfe8a1, 0xa81a664b, 0xc24b8b70, 0xc76c51a3, 0xd192e819, 0xd6990624, 0xf40e3585, 0x106aa070, 0x19a4c116, 0x1e376c08, 0x2748774c, 0x34b0bcb5, 0x391c0cb3, 0x4ed8aa4a, 0x5b9cca4f, 0x682e6ff3, 0x748f82ee, 0x78a5636f, 0x84c87814, 0x8cc70208, 0x90befffa, 0xa4506ceb, 0xbef9a3f7, 0xc67178f2]
def salt (i : Nat) : BitVec 32 := BitVec.ofNat 32 (salts.getD i 0)
def down (k p : BitVec 32) (v : Nat → BitVec 32) : BitVec 32 := v 7 + bs1 (v 4) + ch (v 4) (v 5) (v 6) + k + p
def top (k p : BitVec 32) (v : Nat → BitVec 32) : BitVec 32 := down k p v + bs0 (v 0) + maj (v 0) (v 1) (v 2)
def shifted (v : Nat → BitVec 32) : Nat → BitVec 32 := fun n => if n = 0 then v 0 else v (n - 1)
def step (k p : BitVec 32) (v : Nat → BitVec 32) : Nat → BitVec 32 := up (up (shifted v) 0 (top k p v)) 4 (v 3 + down k p v)
def rounds (p : Nat → BitVec 32) (h : Nat → BitVec 32) : Nat → Nat → BitVec 32
  | 0 => h
  | k + 1 => step (salt k) (p k) (rounds p h k)
def added (h v : Nat → BitVec 32) (i : Nat) : Nat → BitVec 32 := fun n => if n < i then h n + v n else h n
def mix (h : Nat → BitVec 32) (b : Nat → UInt8) : Nat → BitVec 32 := added h (rounds (plan b) h 64) 8
theorem added_next (h v : Nat → BitVec 32) (i : Nat) : up (added h v i) i (h i + v i) = added h v (i + 1) := by
  funext k
  simp only [up, added]
  by_cases h1 : k = i
  · subst h1; simp
  · by_cases h2 : k < i
    · simp [h1, h2, show k < i + 1 by omega]
    · simp [h1, h2, show ¬ k < i + 1 by omega]
theorem added_at (h v : Nat → BitVec 32) (i : Nat) : added h v i i = h i := by simp [added]
theorem splice_shift (v : Nat → BitVec 32) : splice (wordsL 8 v) 1 (wordsL 7 v) = wordsL 8 (shifted v) := by
  simp [splice, wordsL, List.range, List.range.loop, shifted]
def inits : List Nat := [0x6a09e667, 0xbb67ae85, 0x3c6ef372, 0xa54ff53a, 0x510e527f, 0x9b05688c, 0x1f83d9ab, 0x5be0cd19]
def init (i : Nat) : BitVec 32 := BitVec.ofNat 32 (inits.getD i 0)
/-! What comes behind all bytes. -/
def noughts (L : Nat) : Nat := (119 - L % 64) % 64
def byteAt (L i : Nat) : UInt8 := UInt8.ofNat (L * 8 / 2 ^ (8 * i))
def padF (L n : Nat) : Nat → Nat → UInt8
  | 0 => up (fun _ => 0) 0 128
  | i + 1 => up (padF L n i) (n - 1 - i) (byteAt L i)
/-- Bytes as a string. -/
def bstr (n : Nat) (f : Nat → UInt8) : ByteArray := ⟨((List.range n).map f).toArray⟩
def pad (L : Nat) : ByteArray := bstr (noughts L + 9) (padF L (noughts L + 9) 8)
theorem byteAt_val (L i : Nat) : ((L : Int) * 8 / 2 ^ (8 * i)) % 256 = ((byteAt L i).toNat : Int) := by
  rw [byteAt, UInt8.toNat_ofNat']
  have : ((L * 8 / 2 ^ (8 * i) : Nat) : Int) = (L : Int) * 8 / 2 ^ (8 * i) := by simp
  rw [← this]
  omega
def ints (n : Nat) (f : Nat → UInt8) : List Int := (List.range n).map fun k => ((f k).toNat : Int)
theorem ints_len (n : Nat) (f : Nat → UInt8) : (ints n f).length = n := by simp [ints]
theorem ints_at (n : Nat) (f : Nat → UInt8) (i : Nat) (h : i < n) : (ints n f).getD i 0 = ((f i).toNat : Int) := by
  simp [ints, List.getD, h]
theorem str_of (n : Nat) (f : Nat → UInt8) : strOfNums (ints n f) = bstr n f := by
  simp [strOfNums, ints, bstr]
/-! Words as bytes, the highest first. -/
def outByte (h : Nat → BitVec 32) (i : Nat) : UInt8 := UInt8.ofNat ((h (i / 4)).toNat / 2 ^ (8 * (3 - i % 4)))
def outF (h : Nat → BitVec 32) (i : Nat) : Nat → UInt8 := fun k => if k < i then outByte h k else 0
def out (h : Nat → BitVec 32) : ByteArray := bstr 32 (outByte h)
theorem outF_next (h : Nat → BitVec 32) (i : Nat) : up (outF h i) i (outByte h i) = outF h (i + 1) := by
  funext k
  simp only [up, outF]
  by_cases h1 : k = i
  · subst h1; simp
  · by_cases h2 : k < i
    · simp [h1, h2, show k < i + 1 by omega]
    · simp [h1, h2, show ¬ k < i + 1 by omega]
theorem bstr_congr {n : Nat} {f g : Nat → UInt8} (h : ∀ k, k < n → f k = g k) : bstr n f = bstr n g := by
  unfold bstr
  congr 2
  apply List.map_congr_left
  intro k hk
  exact h k (List.mem_range.1 hk)
theorem out_val (x : BitVec 32) (m : Nat) : ((x.toNat : Int) / 2 ^ m) % 256 = ((UInt8.ofNat (x.toNat / 2 ^ m)).toNat : Int) := by
  rw [UInt8.toNat_ofNat']
  have : ((x.toNat / 2 ^ m : Nat) : Int) = (x.toNat : Int) / 2 ^ m := by simp
  rw [← this]
  omega
theorem ofByte (x : UInt8) : (BitVec.ofNat 32 x.toNat).toNat = x.toNat := by
  rw [BitVec.toNat_ofNat]; have := x.toNat_lt; omega
end Sha
open Go.RowKit in
/-- What one store into a row of words leaves. -/
theorem row_store {w : World} {g i n : Nat} {f : Nat → BitVec 32} {t : TypeId} (v : BitVec 32) (h : w.heap[g]? = some (.cells (Sha.wordsA n f) t (0, 0))) :
    (w.setCell ⟨g, i, none⟩ (.int .u32 (v.toNat : Int))).heap[g]? = some (.cells (Sha.wordsA n (Sha.up f i v)) t (0, 0)) := by
  rw [heap_setCell_same w g i _ t _ h, Sha.wordsA_set]
open Go.RowKit in
theorem row_other {w : World} {g h i : Nat} (v : Value) (hne : h ≠ g) : (w.setCell ⟨g, i, none⟩ v).heap[h]? = w.heap[h]? := by
  simp only [World.setCell]
  rw [Array.getElem?_modify, if_neg (fun e => hne e.symm)]
end Go.Proofs.YtdbbgpcjclmelaaGreatDoor.Sa
namespace Go.Proofs.YtdbbgpcjclmelaaGreatDoor.Sa
open Go.RowKit
theorem ret_u32 {a b : Int} (h : a = b) : Ending.returned (.int .u32 a) = .returned (.int .u32 b) := by rw [h]
theorem rotl_val (x : BitVec 32) (n m : Nat) (h : m = n) :
    bits .or .u32 ((x.toNat : Int) * 2 ^ (32 - n) % 4294967296) ((x.toNat : Int) / 2 ^ m) = ((Sha.rotr x n).toNat : Int) := by
  subst h
  rw [Sha.b_shl, Sha.b_shr, Sha.b_or, Sha.rotr, BitVec.or_comm]
set_option maxHeartbeats 400000 in
theorem rotl_any (x : BitVec 32) (k : Int) (n : Nat) (w : World) (hk : k = -(n : Int)) (h1 : 1 ≤ n) (h2 : n ≤ 31) :
    Calls Tryz.prog 160 #[.int .u32 (x.toNat : Int), .int .i64 k] w fun e w' => e = .returned (.int .u32 ((Sha.rotr x n).toNat : Int)) ∧ w' = w := by
  have hs : bits BinOp.and IntKind.u64 (IntKind.u64.wrap k) 31 = ((32 - n : Nat) : Int) := by rw [hk]; exact Sha.and31 n h1 h2
  have hx := x.isLt
  have HK : Hid (k = -(n : Int)) := hk
  clear hk
  go_enter Tryz.func160, Tryz.ntmps160
  go_wp2
  go_ret
  exact ⟨ret_u32 (rotl_val x n _ (by omega)), rfl⟩
set_option maxHeartbeats 400000 in
theorem right_any (x : BitVec 32) (k : Int) (w : World) (h1 : 1 ≤ k) (h2 : k ≤ 31) :
    Calls Tryz.prog 129 #[.int .u32 (x.toNat : Int), .int .i64 k] w fun e w' => e = .returned (.int .u32 ((Sha.rotr x k.toNat).toNat : Int)) ∧ w' = w := by
  go_enter Tryz.func129, Tryz.ntmps129
  go_wp2_with (go_at_call 160; refine (rotl_any x _ k.toNat _ (by omega) (by omega) (by omega)).mono ?_; rintro e w' ⟨rfl, rfl⟩)
  go_ret
  exact ⟨rfl, rfl⟩
set_option maxHeartbeats 400000 in
theorem bs1_any (x : BitVec 32) (w : World) :
    Calls Tryz.prog 102 #[.int .u32 (x.toNat : Int)] w fun e w' => e = .returned (.int .u32 ((Sha.bs1 x).toNat : Int)) ∧ w' = w := by
  go_enter Tryz.func102, Tryz.ntmps102
  go_wp2_with (go_at_call 129; refine (right_any x _ _ (by decide) (by decide)).mono ?_; rintro e w' ⟨rfl, rfl⟩)
  go_ret
  exact ⟨ret_u32 (by rw [Sha.b_xor, Sha.b_xor]; rfl), rfl⟩
set_option maxHeartbeats 400000 in
theorem bs0_any (x : BitVec 32) (w : World) :
    Calls Tryz.prog 104 #[.int .u32 (x.toNat : Int)] w fun e w' => e = .returned (.int .u32 ((Sha.bs0 x).toNat : Int)) ∧ w' = w := by
  go_enter Tryz.func104, Tryz.ntmps104
  go_wp2_with (go_at_call 129; refine (right_any x _ _ (by decide) (by decide)).mono ?_; rintro e w' ⟨rfl, rfl⟩)
  go_ret
  exact ⟨ret_u32 (by rw [Sha.b_xor, Sha.b_xor]; rfl), rfl⟩
set_option maxHeartbeats 400000 in
theorem ss1_any (x : BitVec 32) (w : World) :
    Calls Tryz.prog 127 #[.int .u32 (x.toNat : Int)] w fun e w' => e = .returned (.int .u32 ((Sha.ss1 x).toNat : Int)) ∧ w' = w := by
  have hx := x.isLt
  go_enter Tryz.func127, Tryz.ntmps127
  go_wp2_with (go_at_call 129; refine (right_any x _ _ (by decide) (by decide)).mono ?_; rintro e w' ⟨rfl, rfl⟩)
  go_ret
  exact ⟨ret_u32 (by rw [Sha.b_xor, Sha.b_shr' x 10 1024, Sha.b_xor]; rfl), rfl⟩
set_option maxHeartbeats 400000 in
theorem ss0_any (x : BitVec 32) (w : World) :
    Calls Tryz.prog 128 #[.int .u32 (x.toNat : Int)] w fun e w' => e = .returned (.int .u32 ((Sha.ss0 x).toNat : Int)) ∧ w' = w := by
  have hx := x.isLt
  go_enter Tryz.func128, Tryz.ntmps128
  go_wp2_with (go_at_call 129; refine (right_any x _ _ (by decide) (by decide)).mono ?_; rintro e w' ⟨rfl, rfl⟩)
  go_ret
  exact ⟨ret_u32 (by rw [Sha.b_xor, Sha.b_shr' x 3 8, Sha.b_xor]; rfl), rfl⟩
set_option maxHeartbeats 400000 in
theorem choice_any (x y z : BitVec 32) (w : World)  :
    Calls Tryz.prog 103 #[.int .u32 (x.toNat : Int), .int .u32 (y.toNat : Int), .int .u32 (z.toNat : Int)] w fun e w' => e = .returned (.int .u32 ((Sha.ch x y z).toNat : Int)) ∧ w' = w := by
  go_enter Tryz.func103, Tryz.ntmps103
  go_wp2
  go_ret
  exact ⟨ret_u32 (by rw [Sha.b_not, Sha.b_and, Sha.b_and, Sha.b_xor]; rfl), rfl⟩
set_option maxHeartbeats 400000 in
theorem maj_any (x y z : BitVec 32) (w : World)  :
    Calls Tryz.prog 105 #[.int .u32 (x.toNat : Int), .int .u32 (y.toNat : Int), .int .u32 (z.toNat : Int)] w fun e w' => e = .returned (.int .u32 ((Sha.maj x y z).toNat : Int)) ∧ w' = w := by
  go_enter Tryz.func105, Tryz.ntmps105
  go_wp2
  go_ret
  exact ⟨ret_u32 (by rw [Sha.b_and, Sha.b_and, Sha.b_and, Sha.b_xor, Sha.b_xor]; rfl), rfl⟩
set_option maxHeartbeats 400000 in
theorem turn_any (x : BitVec 32) (k : Int) (w : World) (h1 : 1 ≤ k) (h2 : k ≤ 31) :
    Calls Tryz.prog 58 #[.int .u32 (x.toNat : Int), .int .i64 k] w fun e w' => e = .returned (.int .u32 ((Sha.rotr x k.toNat).toNat : Int)) ∧ w' = w := by
  have hx := x.isLt
  go_enter Tryz.func58, Tryz.ntmps58
  go_wp2
  go_ret
  exact ⟨ret_u32 (Sha.turn_val x k.toNat _ (by omega) (by omega) (by omega)), rfl⟩
end Go.Proofs.YtdbbgpcjclmelaaGreatDoor.Sa
namespace Go.Proofs.YtdbbgpcjclmelaaGreatDoor.Sa
open Go.RowKit
theorem hideIt {p : Prop} (h : p) : Hid p := h
structure SchedMem (N : Nat) (b : Nat → UInt8) (f : Nat → BitVec 32) (w0 w : World) : Prop where
  below : Below N w0 w
  blk : w.heap[N]? = some (.cells (Sha.bytesA 64 b) 117 (0, 0))
  res : w.heap[N + 1]? = some (.cells (Sha.wordsA 64 fun _ => 0#32) 95 (0, 0))
  plan : w.heap[N + 1 + 1]? = some (.cells (Sha.wordsA 64 f) 95 (0, 0))
theorem SchedMem.store {N : Nat} {b : Nat → UInt8} {f : Nat → BitVec 32} {w0 w : World} (h : SchedMem N b f w0 w) (i : Nat) (v : BitVec 32) :
    SchedMem N b (Sha.up f i v) w0 (w.setCell ⟨N + 1 + 1, i, none⟩ (.int .u32 (v.toNat : Int))).drew where
  below := (h.below.setCell (p := ⟨N + 1 + 1, i, none⟩) (by simp; omega) _).drew
  blk := by rw [heap_drew, row_other _ (by omega)]; exact h.blk
  res := by rw [heap_drew, row_other _ (by omega)]; exact h.res
  plan := by rw [heap_drew]; exact row_store v h.plan
theorem wrap_sub (i : Nat) (k : Int) (h1 : k ≤ (i : Int)) (h2 : (i : Int) - k < 64) : IntKind.i64.wrap ((i : Int) - k) = (i : Int) - k := by
  simp [IntKind.wrap, IntKind.bits, IntKind.signed]
  split <;> omega
theorem info40 (f : Nat → BitVec 32) : (Tryz.prog.info? 95).map (·.size) = some (Sha.wordsA 64 f).size := by rw [Sha.wordsA_size]; kernel_rfl
theorem info39 (f : Nat → BitVec 32) : (Tryz.prog.info? 94).map (·.size) = some (Sha.wordsA 8 f).size := by rw [Sha.wordsA_size]; kernel_rfl
theorem info43 (f : Nat → UInt8) : (Tryz.prog.info? 117).map (·.size) = some (Sha.bytesA 64 f).size := by rw [Sha.bytesA_size]; kernel_rfl
theorem words_all (n : Nat) (f : Nat → BitVec 32) : (Sha.wordsA n f).all (·.oneCell') = true := Array.all_eq_true_iff_forall_mem.2 (fun v hv => Sha.wordsL_one n f v (by simpa [Sha.wordsA] using hv))
theorem bytes_all (n : Nat) (f : Nat → UInt8) : (Sha.bytesA n f).all (·.oneCell') = true := Array.all_eq_true_iff_forall_mem.2 (fun v hv => Sha.bytesL_one n f v (by simpa [Sha.bytesA] using hv))
theorem cell_apart {w : World} {g i o : Nat} {v u : Value} (h : w.cell? ⟨g, o, none⟩ = some u) (hne : i ≠ o) : (w.setCell ⟨g, i, none⟩ v).drew.cell? ⟨g, o, none⟩ = some u := by
  have e : (w.setCell ⟨g, i, none⟩ v).drew.cell? ⟨g, o, none⟩ = (w.setCell ⟨g, i, none⟩ v).cell? ⟨g, o, none⟩ := rfl
  rw [e, World.cell?_setCell_other _ _ _ _ (by intro e; simp only [Addr.mk.injEq, true_and, and_true] at e; exact hne e), h]
theorem zeros64 : Sha.wordsA 64 (fun _ => 0#32) = (List.replicate 64 (Value.int .u32 0)).toArray := by
  simp [Sha.wordsA, Sha.wordsL, Sha.word, List.replicate, List.range, List.range.loop]
theorem sched_start (b : Nat → UInt8) (w : World) (z : Array Value) (hz : z = Sha.wordsA 64 (fun _ => 0#32)) :
    SchedMem w.heap.size b (Sha.first b 0) w (((w.alloc (.cells (Sha.bytesA 64 b) 117)).alloc (.cells z 95)).alloc (.cells z 95)) := by
  have s1 : (w.alloc (.cells (Sha.bytesA 64 b) 117)).heap.size = w.heap.size + 1 := by simp
  have s2 : ((w.alloc (.cells (Sha.bytesA 64 b) 117)).alloc (.cells z 95)).heap.size = w.heap.size + 1 + 1 := by simp
  subst hz
  refine ⟨(((Below.refl _ _).alloc (Nat.le_refl _) _).alloc (by omega) _).alloc (by omega) _, ?_, ?_, ?_⟩
  · rw [Below.heap_alloc _ _ _ (by omega), Below.heap_alloc _ _ _ (by omega)]; exact heap_alloc_new w _
  · rw [Below.heap_alloc _ _ _ (by omega), ← s1]; exact heap_alloc_new _ _
  · rw [← s2]; exact heap_alloc_new _ _
set_option maxHeartbeats 1000000 in
set_option maxRecDepth 100000 in
theorem sched_any (b : Nat → UInt8) (w : World) :
    Calls Tryz.prog 101 #[.agg (Sha.bytesA 64 b)] w fun e w' => e = .returned (.agg (Sha.wordsA 64 (Sha.plan b))) ∧ Below w.heap.size w w' := by
  go_enter Tryz.func101, Tryz.ntmps101
  go_wp2
  go_loopw [7] (fun t w' => ∃ i : Nat, i ≤ 16 ∧ t = .int .i64 i ∧ SchedMem w.heap.size b (Sha.first b i) w w') (fun t _ => 16 - (intOf t).toNat)
  case atStart =>
    exact ⟨0, by omega, rfl, sched_start b w _ (by rw [zeros64]; rfl)⟩
  case round =>
    obtain ⟨i, hi, rfl, hm⟩ := hrel
    by_cases hlt : i < 16
    · have hid : decide ((i : Int) < 16) = true := by simp; omega
      go_wp2
      go_loopw [10] (fun t w' => ∃ j : Nat, j ≤ 4 ∧ t = .int .i64 j ∧ SchedMem w.heap.size b (Sha.up (Sha.first b i) i (Sha.bePart b i j)) w w') (fun t _ => 4 - (intOf t).toNat)
      case atStart =>
        refine ⟨0, by omega, rfl, ?_⟩
        rw [Sha.first_same]; exact hm
      case round =>
        obtain ⟨j, hj, rfl, hm⟩ := hrel
        by_cases hlj : j < 4
        · have hx := cell_of_row _ _ i _ _ _ hm.plan
          rw [Sha.wordsA_at _ _ _ (by omega)] at hx
          have hy := cell_of_row _ _ (i * 4 + j) _ _ _ hm.blk
          rw [Sha.bytesA_at _ _ _ (by omega)] at hy
          have hf : wr.frozen? ⟨w.heap.size + 1 + 1, i, none⟩ = false := by simp [World.frozen?, hm.plan]
          obtain ⟨x, hxd⟩ : ∃ x, x = Sha.bePart b i j := ⟨_, rfl⟩
          have hxe : Sha.up (Sha.first b i) i (Sha.bePart b i j) i = x := by simp [Sha.up, hxd]
          rw [hxe] at hx
          obtain ⟨y, hyd⟩ : ∃ y, y = b (i * 4 + j) := ⟨_, rfl⟩
          rw [← hyd] at hy
          have HV := hideIt (Sha.be_next b i j x y hxd hyd)
          have hxl := x.isLt
          have hyl := y.toNat_lt
          have hi0 : (0 : Int) ≤ (i : Int) := by omega
          have hj0 : (0 : Int) ≤ (j : Int) := by omega
          have hj1 : (j : Int) < 4 := by omega
          have hi2 : (i : Int) < 64 := by omega
          have hij0 : (0 : Int) ≤ (i : Int) * 4 + (j : Int) := by omega
          have hij : (i : Int) * 4 + (j : Int) < 64 := by omega
          clear hxd hyd hxe
          go_wp2
          go_region
          go_wp2
          go_roundw
          case rel => 
            refine ⟨j + 1, by omega, by go_num, ?_⟩
            rw [HV.out]
            have := hm.store i (Sha.bePart b i (j + 1))
            rw [Sha.up_up] at this
            exact this
          case measure => simp [intOf]; omega
        · obtain rfl : j = 4 := by omega
          rw [Sha.first_next] at hm
          go_wp2
          go_roundw
          case rel => exact ⟨i + 1, by omega, by go_num, hm⟩
          case measure => simp [intOf]; omega
    · obtain rfl : i = 16 := by omega
      go_wp2
      go_loopw [6] (fun t w' => ∃ k i : Nat, k ≤ 48 ∧ i = 16 + k ∧ t = .int .i64 i ∧ SchedMem w.heap.size b (Sha.ext b k) w w') (fun t _ => 64 - (intOf t).toNat)
      case atStart => exact ⟨0, 16, by omega, rfl, rfl, hm⟩
      case round =>
        obtain ⟨k, i, hk, hik, rfl, hm⟩ := hrel
        by_cases hlk : k < 48
        · obtain ⟨o2, ho2⟩ : ∃ o, i = o + 2 := ⟨i - 2, by omega⟩
          obtain ⟨o7, ho7⟩ : ∃ o, i = o + 7 := ⟨i - 7, by omega⟩
          obtain ⟨o15, ho15⟩ : ∃ o, i = o + 15 := ⟨i - 15, by omega⟩
          have c2 := cell_of_row _ _ o2 _ _ _ hm.plan
          have c7 := cell_of_row _ _ o7 _ _ _ hm.plan
          have c15 := cell_of_row _ _ o15 _ _ _ hm.plan
          have c16 := cell_of_row _ _ k _ _ _ hm.plan
          have ci := cell_of_row _ _ i _ _ _ hm.plan
          rw [Sha.wordsA_at _ _ _ (by omega)] at c2 c7 c15 c16 ci
          have hf : wr.frozen? ⟨w.heap.size + 1 + 1, i, none⟩ = false := by simp [World.frozen?, hm.plan]
          obtain ⟨x2, hx2⟩ : ∃ x, x = Sha.ext b k o2 := ⟨_, rfl⟩
          obtain ⟨x7, hx7⟩ : ∃ x, x = Sha.ext b k o7 := ⟨_, rfl⟩
          obtain ⟨x15, hx15⟩ : ∃ x, x = Sha.ext b k o15 := ⟨_, rfl⟩
          obtain ⟨x16, hx16⟩ : ∃ x, x = Sha.ext b k k := ⟨_, rfl⟩
          rw [← hx2] at c2
          rw [← hx7] at c7
          rw [← hx15] at c15
          rw [← hx16] at c16
          have HV : Hid (Sha.up (Sha.ext b k) i (Sha.ss1 x2 + x7 + Sha.ss0 x15 + x16) = Sha.ext b (k + 1)) := by
            rw [hx2, hx7, hx15, hx16, hik, show o2 = 14 + k by omega, show o7 = 9 + k by omega, show o15 = 1 + k by omega]
            exact rfl
          clear hx2 hx7 hx15 hx16
          have HI : Hid (i = 16 + k) := hik
          have h2 : (i : Int) < 64 := by omega
          have b2 : (2 : Int) ≤ (i : Int) := by omega
          have b7 : (7 : Int) ≤ (i : Int) := by omega
          have b15 : (15 : Int) ≤ (i : Int) := by omega
          have b16 : (16 : Int) ≤ (i : Int) := by omega
          have l2 : (i : Int) - 2 < 64 := by omega
          have l7 : (i : Int) - 7 < 64 := by omega
          have l15 : (i : Int) - 15 < 64 := by omega
          have l16 : (i : Int) - 16 < 64 := by omega
          have r2 : IntKind.i64.wrap ((i : Int) - 2) = (i : Int) - 2 := wrap_sub i 2 (by omega) (by omega)
          have r7 : IntKind.i64.wrap ((i : Int) - 7) = (i : Int) - 7 := wrap_sub i 7 (by omega) (by omega)
          have r15 : IntKind.i64.wrap ((i : Int) - 15) = (i : Int) - 15 := wrap_sub i 15 (by omega) (by omega)
          have r16 : IntKind.i64.wrap ((i : Int) - 16) = (i : Int) - 16 := wrap_sub i 16 (by omega) (by omega)
          have e2 : ((i : Int) - 2).toNat = o2 := by omega
          have e7 : ((i : Int) - 7).toNat = o7 := by omega
          have e15 : ((i : Int) - 15).toNat = o15 := by omega
          have e16 : ((i : Int) - 16).toNat = k := by omega
          have n2 : i ≠ o2 := by omega
          have n7 : i ≠ o7 := by omega
          have n15 : i ≠ o15 := by omega
          have n16 : i ≠ k := by omega
          clear hik hlk hk ho2 ho7 ho15
          go_wp2
          go_region_held3 (fun w' => w'.cell? ⟨w.heap.size + 1 + 1, o2, none⟩ = some (.int .u32 (x2.toNat : Int)) ∧ w'.cell? ⟨w.heap.size + 1 + 1, o7, none⟩ = some (.int .u32 (x7.toNat : Int)) ∧ w'.cell? ⟨w.heap.size + 1 + 1, o15, none⟩ = some (.int .u32 (x15.toNat : Int)) ∧ w'.cell? ⟨w.heap.size + 1 + 1, k, none⟩ = some (.int .u32 (x16.toNat : Int))) (first | (go_keep; done) | (exact ⟨cell_apart c2 n2, cell_apart c7 n7, cell_apart c15 n15, cell_apart c16 n16⟩))
            (first | (go_at_call 127; refine (ss1_any x2 _).mono ?_; rintro e w' ⟨rfl, rfl⟩) | (go_at_call 128; refine (ss0_any x15 _).mono ?_; rintro e w' ⟨rfl, rfl⟩))
          go_wp2
          go_roundw
          case rel =>
            repeat apply Exists.intro
            refine ⟨?_, rfl⟩
            refine ⟨k + 1, i + 1, by omega, by have := HI.out; omega, by go_num, ?_⟩
            have hs := hm.store i (Sha.ss1 x2 + x7 + Sha.ss0 x15 + x16)
            rw [HV.out] at hs
            simp only [Sha.b_add]
            exact hs
          case measure => simp [intOf]; omega
        · obtain rfl : k = 48 := by omega
          have hid : decide ((i : Int) < 64) = false := by simp; omega
          have hp := hm.plan
          have hr := hm.res
          have HP := hideIt hp
          have HR := hideIt hr
          clear hp hr
          go_wp2_with (first | (refine wpList_load_row rfl 95 _ rfl _ rfl _ _ _ _ HP.out Tryz.underlying95 rfl (info40 _) ?_) | (refine wpList_store_row rfl 95 _ _ rfl _ _ rfl rfl _ _ HR.out (info40 _) (by rw [Sha.wordsA_size, Sha.wordsA_size]) (words_all _ _) ?_))
          refine bodyPost_ret (v := .agg (Sha.wordsA 64 (Sha.plan b))) (results_cell_row Tryz.results101 _ _ (w.heap.size + 1) 95 _ (0, 0) _ rfl (setRow_heap _ _ _ _ _ _ HR.out) Tryz.underlying95 rfl (info40 _)) rfl ⟨rfl, ?_⟩
          exact below_setRow hm.below (by omega) _
end Go.Proofs.YtdbbgpcjclmelaaGreatDoor.Sa
namespace Go.Proofs.YtdbbgpcjclmelaaGreatDoor.Sa
open Go.RowKit
/-- The package's table of the rounds' words is as it was laid. -/
def KAt (w : World) : Prop := ∀ i, i < 64 → w.cell? ⟨0, i, none⟩ = some (.int .u32 ((Sha.salt i).toNat : Int))
structure MixMem (N G : Nat) (h p v : Nat → BitVec 32) (w0 w : World) : Prop where
  below : Below N w0 w
  lt : N + 1 + 1 < G
  words : w.heap[N]? = some (.cells (Sha.wordsA 8 h) 94 (0, 0))
  res : w.heap[N + 1 + 1]? = some (.cells (Sha.wordsA 8 fun _ => 0#32) 94 (0, 0))
  plan : w.heap[G]? = some (.cells (Sha.wordsA 64 p) 95 (0, 0))
  v : w.heap[G + 1]? = some (.cells (Sha.wordsA 8 v) 94 (0, 0))
theorem MixMem.copied {N G : Nat} {h p v : Nat → BitVec 32} {w0 w w2 : World} (hm : MixMem N G h p v w0 w) (hb : Below (G + 1) w w2)
    (hg : w2.heap[G + 1]? = some (.cells (splice (Sha.wordsL 8 v) 1 (Sha.wordsL 7 v)).toArray 94 (0, 0))) : MixMem N G h p (Sha.shifted v) w0 w2 := by
  have hl := hm.lt
  refine ⟨hm.below.trans (hb.mono (by omega)), hl, ?_, ?_, ?_, ?_⟩
  · rw [hb.block _ (by omega)]; exact hm.words
  · rw [hb.block _ (by omega)]; exact hm.res
  · rw [hb.block _ (by omega)]; exact hm.plan
  · rw [hg, Sha.splice_shift]; rfl
theorem MixMem.put {N G : Nat} {h p v : Nat → BitVec 32} {w0 w : World} (hm : MixMem N G h p v w0 w) (i : Nat) (x : BitVec 32) :
    MixMem N G h p (Sha.up v i x) w0 (w.setCell ⟨G + 1, i, none⟩ (.int .u32 (x.toNat : Int))) := by
  have hl := hm.lt
  refine ⟨hm.below.setCell (p := ⟨G + 1, i, none⟩) (by simp; omega) _, hl, ?_, ?_, ?_, row_store x hm.v⟩
  · rw [row_other _ (by omega)]; exact hm.words
  · rw [row_other _ (by omega)]; exact hm.res
  · rw [row_other _ (by omega)]; exact hm.plan
theorem MixMem.add {N G : Nat} {h p v : Nat → BitVec 32} {w0 w : World} (hm : MixMem N G h p v w0 w) (i : Nat) (x : BitVec 32) :
    MixMem N G (Sha.up h i x) p v w0 (w.setCell ⟨N, i, none⟩ (.int .u32 (x.toNat : Int))).drew := by
  have hl := hm.lt
  refine ⟨(hm.below.setCell (p := ⟨N, i, none⟩) (Nat.le_refl _) _).drew, hl, ?_, ?_, ?_, ?_⟩
  · rw [heap_drew]; exact row_store x hm.words
  · rw [heap_drew, row_other _ (by omega)]; exact hm.res
  · rw [heap_drew, row_other _ (by omega)]; exact hm.plan
  · rw [heap_drew, row_other _ (by omega)]; exact hm.v
abbrev mixStart (h : Nat → BitVec 32) (b : Nat → UInt8) (w : World) : World :=
  ((w.alloc (.cells (Sha.wordsA 8 h) 94)).alloc (.cells (Sha.bytesA 64 b) 117)).alloc (.cells #[.int .u32 0, .int .u32 0, .int .u32 0, .int .u32 0, .int .u32 0, .int .u32 0, .int .u32 0, .int .u32 0] 94)
theorem mix_size (h : Nat → BitVec 32) (b : Nat → UInt8) (w : World) : (mixStart h b w).heap.size = w.heap.size + 1 + 1 + 1 := by simp [mixStart]
theorem mix_heap1 (h : Nat → BitVec 32) (b : Nat → UInt8) (w : World) : (mixStart h b w).heap[w.heap.size + 1]? = some (.cells (Sha.bytesA 64 b) 117 (0, 0)) := by
  have s1 : (w.alloc (.cells (Sha.wordsA 8 h) 94)).heap.size = w.heap.size + 1 := by simp
  rw [mixStart, Below.heap_alloc _ _ _ (by simp), ← s1]
  exact heap_alloc_new _ _
theorem mix_heap0 (h : Nat → BitVec 32) (b : Nat → UInt8) (w : World) : (mixStart h b w).heap[w.heap.size]? = some (.cells (Sha.wordsA 8 h) 94 (0, 0)) := by
  rw [mixStart, Below.heap_alloc _ _ _ (by simp; omega), Below.heap_alloc _ _ _ (by simp)]
  exact heap_alloc_new _ _
theorem alloc_at {w : World} {o : Obj} {n : Nat} (h : w.heap.size = n) : (w.alloc o).heap[n]? = some o := by subst h; exact heap_alloc_new w o
theorem mix_mem {h : Nat → BitVec 32} {b : Nat → UInt8} {w w1 : World} (hb : Below (mixStart h b w).heap.size (mixStart h b w) w1) (z y : Array Value) :
    MixMem w.heap.size w1.heap.size h (Sha.plan b) h w ((((w1.alloc (.cells z 95)).setRow w1.heap.size (Sha.wordsA 64 (Sha.plan b))).alloc (.cells y 94)).setRow (w1.heap.size + 1) (Sha.wordsA 8 h)) := by
  have hs := hb.size
  rw [mix_size] at hb hs
  have h2 : (mixStart h b w).heap[w.heap.size + 1 + 1]? = some (.cells (Sha.wordsA 8 fun _ => 0#32) 94 (0, 0)) := by
    rw [mixStart]; exact alloc_at (by simp)
  have k : ∀ g, g < w.heap.size + 1 + 1 + 1 → ((((w1.alloc (.cells z 95)).setRow w1.heap.size (Sha.wordsA 64 (Sha.plan b))).alloc (.cells y 94)).setRow (w1.heap.size + 1) (Sha.wordsA 8 h)).heap[g]? = (mixStart h b w).heap[g]? := by
    intro g hg
    rw [setRow_other _ _ _ _ (by omega), Below.heap_alloc _ _ _ (by simp; omega), setRow_other _ _ _ _ (by omega), Below.heap_alloc _ _ _ (by omega), hb.block g hg]
  refine ⟨⟨?_, ?_, ?_, ?_, ?_⟩, by omega, ?_, ?_, ?_, ?_⟩
  · exact hb.os
  · exact hb.tape
  · exact hb.output
  · simp; omega
  · intro g hg
    rw [k g (by omega), mixStart, Below.heap_alloc _ _ _ (by simp; omega), Below.heap_alloc _ _ _ (by simp; omega), Below.heap_alloc _ _ _ hg]
  · rw [k _ (by omega), mix_heap0]
  · rw [k _ (by omega), h2]
  · rw [setRow_other _ _ _ _ (by omega), Below.heap_alloc _ _ _ (by simp)]
    exact setRow_heap _ _ _ _ _ _ (alloc_at rfl)
  · exact setRow_heap _ _ _ _ _ _ (alloc_at (by simp))
theorem copy_src (v : Nat → BitVec 32) {w : World} {g : Nat} (hg : w.heap[g]? = some (.cells (Sha.wordsA 8 v) 94 (0, 0))) : ∀ j x, (Sha.wordsL 7 v)[j]? = some x → w.cell? ((⟨g, 0, none⟩ : Addr).add j) = some x := by
  intro j x hx
  have hj : j < 7 := by
    have := (List.getElem?_eq_some_iff.1 hx).1
    simpa [Sha.wordsL] using this
  have e : (Sha.wordsL 7 v)[j]? = some (.int .u32 ((v j).toNat : Int)) := by simp [Sha.wordsL, hj, Sha.word]
  rw [e] at hx
  rw [Addr.add_mid, Nat.zero_add, cell_of_row _ _ j _ _ _ hg, Sha.wordsA_at _ _ _ (by omega), hx]
theorem mix_keeps {w0 w1 : World} {g : Nat} {o ob : Obj} {cs : Array Value} (hb : Below w0.heap.size w0 w1) (hg : w0.heap[g]? = some o) : ((w1.alloc ob).setRow w1.heap.size cs).heap[g]? = some o := by
  have hlt : g < w0.heap.size := (Array.getElem?_eq_some_iff.1 hg).1
  have hs := hb.size
  rw [setRow_other _ _ _ _ (by omega), Below.heap_alloc _ _ _ (by omega), hb.block g hlt, hg]
set_option maxHeartbeats 1000000 in
set_option maxRecDepth 100000 in
theorem mixed_any (h : Nat → BitVec 32) (b : Nat → UInt8) (w : World) (hK : KAt w) :
    Calls Tryz.prog 78 #[.agg (Sha.wordsA 8 h), .agg (Sha.bytesA 64 b)] w fun e w' => e = .returned (.agg (Sha.wordsA 8 (Sha.mix h b))) ∧ Below w.heap.size w w' := by
  have HK := hideIt hK
  clear hK
  go_enter Tryz.func78, Tryz.ntmps78
  have F1 := hideIt (mix_heap1 h b w)
  have F0 := hideIt (mix_heap0 h b w)
  go_wp2_with (first | (refine wpList_load_row rfl 117 _ rfl _ rfl _ _ _ _ F1.out Tryz.underlying117 rfl (info43 b) ?_) | (go_at_call 101; refine (sched_any b _).mono ?_; rintro e w1 ⟨rfl, hb1⟩) | (refine wpList_store_row rfl 95 _ _ rfl _ _ rfl rfl _ _ (heap_alloc_new _ _) (info40 _) (by rw [Sha.wordsA_size]; rfl) (words_all _ _) ?_) | (refine wpList_load_row rfl 94 _ rfl _ rfl _ _ _ _ ((mix_keeps hb1 F0.out)) Tryz.underlying94 rfl (info39 h) ?_) | (refine wpList_store_row rfl 94 _ _ rfl _ _ rfl rfl _ _ (alloc_at (by simp)) (info39 _) (by rw [Sha.wordsA_size]; rfl) (words_all _ _) ?_))
  go_loopw [14] (fun t w' => ∃ k : Nat, k ≤ 64 ∧ t = .int .i64 k ∧ MixMem w.heap.size w1.heap.size h (Sha.plan b) (Sha.rounds (Sha.plan b) h k) w w') (fun t _ => 64 - (intOf t).toNat)
  case atStart => exact ⟨0, by omega, rfl, mix_mem hb1 _ _⟩
  case round =>
    obtain ⟨k, hk, rfl, hm⟩ := hrel
    by_cases hlt : k < 64
    · have hkd : decide ((k : Int) < 64) = true := by simp; omega
      have hlt' : (k : Int) < 64 := by omega
      obtain ⟨v, hv⟩ : ∃ v, v = Sha.rounds (Sha.plan b) h k := ⟨_, rfl⟩
      obtain ⟨p, hp⟩ : ∃ p, p = Sha.plan b k := ⟨_, rfl⟩
      obtain ⟨s, hs⟩ : ∃ s, s = Sha.salt k := ⟨_, rfl⟩
      have HN : Hid (Sha.rounds (Sha.plan b) h (k + 1) = Sha.step s p v) := by rw [hs, hp, hv]; exact rfl
      have hz : 0 < w.heap.size := block_lt_of_cell (HK.out 0 (by omega))
      have cK : wr.cell? ⟨0, k, none⟩ = some (.int .u32 (s.toNat : Int)) := by
        rw [hm.below.cell (p := ⟨0, k, none⟩) hz, HK.out k hlt, hs]
      have cP : wr.cell? ⟨w1.heap.size, k, none⟩ = some (.int .u32 (p.toNat : Int)) := by
        rw [cell_of_row _ _ k _ _ _ hm.plan, Sha.wordsA_at _ _ _ hlt, hp]
      rw [← hv] at hm
      have cv : ∀ j, j < 8 → wr.cell? ⟨w1.heap.size + 1, j, none⟩ = some (.int .u32 ((v j).toNat : Int)) := by
        intro j hj; rw [cell_of_row _ _ j _ _ _ hm.v, Sha.wordsA_at _ _ _ hj]
      have c0 := cv 0 (by omega)
      have c1 := cv 1 (by omega)
      have c2 := cv 2 (by omega)
      have c4 := cv 4 (by omega)
      have c5 := cv 5 (by omega)
      have c6 := cv 6 (by omega)
      have c7 := cv 7 (by omega)
      clear cv hv hp hs
      go_wp2
      go_region_held3 (fun w' => w'.cell? ⟨0, k, none⟩ = some (.int .u32 (s.toNat : Int)) ∧ w'.cell? ⟨w1.heap.size, k, none⟩ = some (.int .u32 (p.toNat : Int)) ∧ w'.cell? ⟨w1.heap.size + 1, 4, none⟩ = some (.int .u32 ((v 4).toNat : Int)) ∧ w'.cell? ⟨w1.heap.size + 1, 5, none⟩ = some (.int .u32 ((v 5).toNat : Int)) ∧ w'.cell? ⟨w1.heap.size + 1, 6, none⟩ = some (.int .u32 ((v 6).toNat : Int)) ∧ w'.cell? ⟨w1.heap.size + 1, 7, none⟩ = some (.int .u32 ((v 7).toNat : Int))) (go_keep)
        (first | (go_at_call 102; refine (bs1_any (v 4) _).mono ?_; rintro e w' ⟨rfl, rfl⟩) | (go_at_call 103; refine (choice_any (v 4) (v 5) (v 6) _).mono ?_; rintro e w' ⟨rfl, rfl⟩))
      simp only [Sha.w_add]
      obtain ⟨d, hd⟩ : ∃ d, v 7 + Sha.bs1 (v 4) + Sha.ch (v 4) (v 5) (v 6) + s + p = d := ⟨_, rfl⟩
      rw [hd]
      have HD := hideIt hd
      clear hd
      go_wp2
      go_region_held3 (fun w' => w'.cell? ⟨w1.heap.size + 1, 0, none⟩ = some (.int .u32 ((v 0).toNat : Int)) ∧ w'.cell? ⟨w1.heap.size + 1, 1, none⟩ = some (.int .u32 ((v 1).toNat : Int)) ∧ w'.cell? ⟨w1.heap.size + 1, 2, none⟩ = some (.int .u32 ((v 2).toNat : Int))) (go_keep)
        (first | (go_at_call 104; refine (bs0_any (v 0) _).mono ?_; rintro e w' ⟨rfl, rfl⟩) | (go_at_call 105; refine (maj_any (v 0) (v 1) (v 2) _).mono ?_; rintro e w' ⟨rfl, rfl⟩))
      simp only [Sha.w_add]
      obtain ⟨u, hu⟩ : ∃ u, d + Sha.bs0 (v 0) + Sha.maj (v 0) (v 1) (v 2) = u := ⟨_, rfl⟩
      rw [hu]
      have HU := hideIt hu
      clear hu
      go_wp2
      have HS := hideIt (copy_src v hm.v)
      go_region_held3 (fun _ => True) (trivial)
        ((refine step_copy_splice (by rfl) (.tmp 52) (.tmp 53) 148 148 (by rfl) 93 Tryz.underlying148 (by kernel_rfl) (some ⟨w1.heap.size + 1, 1, none⟩) (some ⟨w1.heap.size + 1, 0, none⟩) 7 7 7 8 (by rfl) (by rfl) (w1.heap.size + 1) 1 (Sha.wordsL 8 v) 94 (by exact hm.v) (Sha.wordsL 7 v) (by rfl) (fun _ => ⟨rfl, _, rfl, by exact HS.out⟩) (by simp [Sha.wordsL]) (Sha.wordsL_one _ _) (w1.heap.size + 1) wr (by repeat (first | exact Below.refl _ _ | apply Below.drew)) (Nat.le_refl _) ?_; intro w2 hg2 hb2))
      have hm2 := hm.copied hb2 hg2.out
      have d0 : w2.cell? ⟨w1.heap.size + 1, 0, none⟩ = some (.int .u32 ((v 0).toNat : Int)) := by rw [cell_of_row _ _ 0 _ _ _ hm2.v, Sha.wordsA_at _ _ _ (by omega)]; rfl
      have d4 : w2.cell? ⟨w1.heap.size + 1, 4, none⟩ = some (.int .u32 ((v 3).toNat : Int)) := by rw [cell_of_row _ _ 4 _ _ _ hm2.v, Sha.wordsA_at _ _ _ (by omega)]; rfl
      have e0 : w2.frozen? ⟨w1.heap.size + 1, 0, none⟩ = false := by simp [World.frozen?, hm2.v]
      have e4 : w2.frozen? ⟨w1.heap.size + 1, 4, none⟩ = false := by simp [World.frozen?, hm2.v]
      have hend := hideIt ((hm2.put 0 u).put 4 (v 3 + d))
      clear hg2 hb2 hm2 hm c0 c1 c2 c4 c5 c6 c7 cK cP HS
      go_wp2
      go_roundw
      case rel =>
        refine ⟨k + 1, by omega, by go_num, ?_⟩
        have e : Sha.step s p v = Sha.up (Sha.up (Sha.shifted v) 0 u) 4 (v 3 + d) := by rw [Sha.step, Sha.top, Sha.down, HD.out, HU.out]
        rw [Sha.b_add, HN.out, e]
        exact hend.out
      case measure => simp [intOf]; omega
    · obtain rfl : k = 64 := by omega
      obtain ⟨v, hv⟩ : ∃ v, v = Sha.rounds (Sha.plan b) h 64 := ⟨_, rfl⟩
      have HV : Hid (Sha.mix h b = Sha.added h v 8) := by rw [hv]; exact rfl
      rw [← hv] at hm
      clear hv hlt hk F0 F1
      go_wp2
      go_loopw [63] (fun t w' => ∃ i : Nat, i ≤ 8 ∧ t = .int .i64 i ∧ MixMem w.heap.size w1.heap.size (Sha.added h v i) (Sha.plan b) v w w') (fun t _ => 8 - (intOf t).toNat)
      case atStart =>
        refine ⟨0, by omega, rfl, ?_⟩
        have e : Sha.added h v 0 = h := by funext n; simp [Sha.added]
        rw [e]; exact hm
      case round =>
        obtain ⟨i, hi, rfl, hm⟩ := hrel
        by_cases hlt : i < 8
        · have hid : decide ((i : Int) < 8) = true := by simp; omega
          have hi1 : (i : Int) < 8 := by omega
          have hi0 : (0 : Int) ≤ (i : Int) := by omega
          have c1 : wr.cell? ⟨w.heap.size, i, none⟩ = some (.int .u32 ((h i).toNat : Int)) := by rw [cell_of_row _ _ i _ _ _ hm.words, Sha.wordsA_at _ _ _ hlt, Sha.added_at]
          have c2 : wr.cell? ⟨w1.heap.size + 1, i, none⟩ = some (.int .u32 ((v i).toNat : Int)) := by rw [cell_of_row _ _ i _ _ _ hm.v, Sha.wordsA_at _ _ _ hlt]
          have hf : wr.frozen? ⟨w.heap.size, i, none⟩ = false := by simp [World.frozen?, hm.words]
          obtain ⟨x, hx⟩ : ∃ x, h i = x := ⟨_, rfl⟩
          obtain ⟨y, hy⟩ : ∃ y, v i = y := ⟨_, rfl⟩
          have HE := hideIt (hm.add i (h i + v i))
          rw [Sha.added_next] at HE
          rw [hx, hy] at HE
          rw [hx] at c1
          rw [hy] at c2
          clear hx hy hm
          go_wp2
          go_region
          go_wp2
          go_roundw
          case rel =>
            refine ⟨i + 1, by omega, by go_num, ?_⟩
            rw [Sha.b_add]
            exact HE.out
          case measure => simp [intOf]; omega
        · obtain rfl : i = 8 := by omega
          have HP := hideIt hm.words
          have HR := hideIt hm.res
          go_wp2_with (first | (refine wpList_load_row rfl 94 _ rfl _ rfl _ _ _ _ HP.out Tryz.underlying94 rfl (info39 _) ?_) | (refine wpList_store_row rfl 94 _ _ rfl _ _ rfl rfl _ _ HR.out (info39 _) (by rw [Sha.wordsA_size, Sha.wordsA_size]) (words_all _ _) ?_))
          refine bodyPost_ret (v := .agg (Sha.wordsA 8 (Sha.added h v 8))) (results_cell_row Tryz.results78 _ _ (w.heap.size + 1 + 1) 94 _ (0, 0) _ rfl (setRow_heap _ _ _ _ _ _ HR.out) Tryz.underlying94 rfl (info39 _)) rfl ⟨by rw [HV.out], ?_⟩
          exact below_setRow hm.below (by omega) _
end Go.Proofs.YtdbbgpcjclmelaaGreatDoor.Sa
namespace Go.Proofs.YtdbbgpcjclmelaaGreatDoor.Sa
open Go.RowKit
theorem init_lit : Sha.wordsA 8 Sha.init = #[.int .u32 1779033703, .int .u32 3144134277, .int .u32 1013904242, .int .u32 2773480762, .int .u32 1359893119, .int .u32 2600822924, .int .u32 528734635, .int .u32 1541459225] := by kernel_rfl
theorem wpList_build_as {P : Program} {ops : Array Oper} {rest : List Oper} {o : Oper} {a : Act} {w : World} {Q : Exit → Act → World → Prop} (hg : o.guard = none) (t : TypeId) (parts : Array (Nat × Operand)) (ho : o.op = .build t parts) (cells : Array Value)
    (hf : P.built t (parts.map fun (i, x) => (i, a.eval x)).toList = some cells)
    (h : wpList P ops Q rest (a.put o.dst (.agg cells)) w) : wpList P ops Q (o :: rest) a w :=
  wpList_build hg t parts ho (by rw [hf]; rfl) (by rw [hf]; exact h)
set_option maxHeartbeats 400000 in
set_option maxRecDepth 100000 in
theorem firsts_any (w : World) :
    Calls Tryz.prog 77 #[] w fun e w' => e = .returned (.agg (Sha.wordsA 8 Sha.init)) ∧ Below w.heap.size w w' := by
  go_enter Tryz.func77, Tryz.ntmps77
  go_wp2_with (first | (refine wpList_build_as rfl 94 _ rfl (Sha.wordsA 8 Sha.init) (by kernel_rfl) ?_) | (refine wpList_store_row rfl 94 _ _ rfl _ _ rfl rfl _ _ (alloc_at rfl) (info39 _) (by rw [Sha.wordsA_size]; rfl) (words_all _ _) ?_))
  refine bodyPost_ret (v := .agg (Sha.wordsA 8 Sha.init)) (results_cell_row Tryz.results77 _ _ w.heap.size 94 _ (0, 0) _ rfl (setRow_heap _ _ _ _ _ _ (alloc_at rfl)) Tryz.underlying94 rfl (info39 _)) rfl ⟨rfl, ?_⟩
  exact below_setRow ((Below.refl _ _).alloc (Nat.le_refl _) _) (Nat.le_refl _) _
set_option maxHeartbeats 400000 in
set_option maxRecDepth 100000 in
theorem salts_any (w : World) :
    Calls Tryz.prog 57 #[] w fun e w' => e = .returned (.agg (Sha.wordsA 64 Sha.salt)) ∧ Below w.heap.size w w' := by
  go_enter Tryz.func57, Tryz.ntmps57
  go_wp2_with (first | (refine wpList_build_as rfl 95 _ rfl (Sha.wordsA 64 Sha.salt) (by kernel_rfl) ?_) | (refine wpList_store_row rfl 95 _ _ rfl _ _ rfl rfl _ _ (alloc_at rfl) (info40 _) (by rw [Sha.wordsA_size]; rfl) (words_all _ _) ?_))
  refine bodyPost_ret (v := .agg (Sha.wordsA 64 Sha.salt)) (results_cell_row Tryz.results57 _ _ w.heap.size 95 _ (0, 0) _ rfl (setRow_heap _ _ _ _ _ _ (alloc_at rfl)) Tryz.underlying95 rfl (info40 _)) rfl ⟨rfl, ?_⟩
  exact below_setRow ((Below.refl _ _).alloc (Nat.le_refl _) _) (Nat.le_refl _) _
end Go.Proofs.YtdbbgpcjclmelaaGreatDoor.Sa
namespace Go.Proofs.YtdbbgpcjclmelaaGreatDoor.Sa
open Go.RowKit
theorem made_bytes (n : Nat) : madeCells (Value.int .u8 0).cells n = Sha.bytesA n (fun _ => 0) := by
  apply Array.ext_getElem?
  intro k
  by_cases h : k < n
  · rw [Sha.bytesA_at _ _ _ h]
    have : k % 1 = 0 := by omega
    simp [madeCells, h, Value.cells, this]
  · rw [Array.getElem?_eq_none (by simp [size_madeCells]; omega), Array.getElem?_eq_none (by rw [Sha.bytesA_size]; omega)]
theorem run_make_bytes (n : Nat) (hn : n ≤ 281474976710656) (w : World) :
    (Instr.makeSlice 54 (.int .u64 (n : Int)) (.int .u64 (n : Int))).run Tryz.prog w = .ok (.slice (some ⟨w.heap.size, 0, none⟩) n n) (w.alloc (.cells (Sha.bytesA n fun _ => 0) 5)) := by
  have hinfo : (Tryz.prog.info? 5).map (fun i => (i.zero, i.size, i.bytes)) = some (some (.int .u8 0), 1, 1) := by kernel_rfl
  obtain ⟨i, hi, he⟩ := Option.map_eq_some_iff.1 hinfo
  simp only [Prod.mk.injEq] at he
  obtain ⟨hz, hs, hb⟩ := he
  have := run_make (P := Tryz.prog) w 54 5 i (.int .u8 0) Tryz.underlying54 hi hz .u64 .u64 (n : Int) (n : Int) (by omega) (Int.le_refl _) (by rw [hb]; omega) (by omega)
  rw [this, hs, Int.toNat_natCast, Nat.mul_one, made_bytes]
theorem row_store8 {w : World} {g i n : Nat} {f : Nat → UInt8} {t : TypeId} (v : UInt8) (h : w.heap[g]? = some (.cells (Sha.bytesA n f) t (0, 0))) :
    (w.setCell ⟨g, i, none⟩ (.int .u8 (v.toNat : Int))).heap[g]? = some (.cells (Sha.bytesA n (Sha.up f i v)) t (0, 0)) := by
  rw [heap_setCell_same w g i _ t _ h, Sha.bytesA_set]
theorem run_str (n : Nat) (f : Nat → UInt8) (w : World) (g : Nat) (h : w.heap[g]? = some (.cells (Sha.bytesA n f) 5 (0, 0))) :
    (convert 54 9 (.slice (some ⟨g, 0, none⟩) n n)).run Tryz.prog w = .ok (.string (Sha.bstr n f)) w := by
  rw [← Sha.str_of]
  refine run_convert_bytes_arg (P := Tryz.prog) w 54 5 Tryz.underlying54 Tryz.underlying5 g 0 n n _ (Sha.ints_len n f) (fun i hi => ?_) 9 Tryz.underlying9
  rw [Nat.zero_add, cell_of_row _ _ i _ _ _ h, Sha.bytesA_at _ _ _ hi, Sha.ints_at _ _ _ hi]
structure PadMem (N n : Nat) (f : Nat → UInt8) (w0 w : World) : Prop where
  below : Below N w0 w
  row : w.heap[N]? = some (.cells (Sha.bytesA n f) 5 (0, 0))
theorem PadMem.put {N n : Nat} {f : Nat → UInt8} {w0 w : World} (h : PadMem N n f w0 w) (i : Nat) (v : UInt8) : PadMem N n (Sha.up f i v) w0 (w.setCell ⟨N, i, none⟩ (.int .u8 (v.toNat : Int))) :=
  ⟨h.below.setCell (p := ⟨N, i, none⟩) (Nat.le_refl _) _, row_store8 v h.row⟩
set_option maxHeartbeats 400000 in
set_option maxRecDepth 100000 in
theorem padding_any (L : Nat) (hL : L < 1152921504606846976) (w : World) :
    Calls Tryz.prog 79 #[.int .u64 (L : Int)] w fun e w' => e = .returned (.string (Sha.pad L)) ∧ Below w.heap.size w w' := by
  obtain ⟨q, hq⟩ : ∃ q, q = Sha.noughts L := ⟨_, rfl⟩
  obtain ⟨n, hn⟩ : ∃ n, n = q + 9 := ⟨_, rfl⟩
  have q1 : (119 - (L : Int) % 64) % 64 = (q : Int) := by rw [hq, Sha.noughts]; omega
  have q2 : (119 - (L : Int)) % 64 = (q : Int) := by rw [hq, Sha.noughts]; omega
  have hql : (q : Int) < 64 := by omega
  have n1 : 1 + (q : Int) + 8 = (n : Int) := by omega
  have n2 : (9 : Int) ≤ (n : Int) := by omega
  have n3 : (0 : Int) < (n : Int) := by omega
  have n4 : n < 100 := by omega
  have hmk := run_make_bytes n (by omega)
  have HE : Hid (Sha.pad L = Sha.bstr n (Sha.padF L n 8)) := by rw [hn, hq]; exact rfl
  have HQ := hideIt hq
  have HN := hideIt hn
  have hb0 : (Sha.bytesA n fun _ => 0)[0]? = some (.int .u8 0) := Sha.bytesA_at _ _ _ (by omega)
  clear hq hn
  go_enter Tryz.func79, Tryz.ntmps79
  go_wp2
  go_loopw [19] (fun t w' => ∃ i : Nat, i ≤ 8 ∧ t = .int .i64 i ∧ PadMem w.heap.size n (Sha.padF L n i) w w') (fun t _ => 8 - (intOf t).toNat)
  case atStart =>
    refine ⟨0, by omega, rfl, ?_⟩
    have e : (Sha.bytesA n fun _ => 0).setIfInBounds 0 (Value.int IntKind.u8 128) = Sha.bytesA n (Sha.padF L n 0) := Sha.bytesA_set n (fun _ => 0) 0 128
    rw [e]
    exact ⟨(Below.refl _ _).alloc (Nat.le_refl _) _, alloc_at rfl⟩
  case round =>
    obtain ⟨i, hi, rfl, hm⟩ := hrel
    by_cases hlt : i < 8
    · obtain ⟨o, ho⟩ : ∃ o, n = o + 1 + i := ⟨n - 1 - i, by omega⟩
      have hid : decide ((i : Int) < 8) = true := by simp; omega
      have c1 := cell_of_row _ _ o _ _ _ hm.row
      rw [Sha.bytesA_at _ _ _ (by omega)] at c1
      have hf : wr.frozen? ⟨w.heap.size, o, none⟩ = false := by simp [World.frozen?, hm.row]
      have a1 : (0 : Int) ≤ (n : Int) - 1 - (i : Int) := by omega
      have a2 : (n : Int) - 1 - (i : Int) < (n : Int) := by omega
      have a3 : ((n : Int) - 1 - (i : Int)).toNat = o := by omega
      have a4 : n - 1 - i = o := by omega
      have a5 : (0 : Int) ≤ (i : Int) := by omega
      have a6 : (i : Int) < 8 := by omega
      have HE := hideIt (hm.put o (Sha.byteAt L i))
      have HO : Hid (Sha.up (Sha.padF L n i) o (Sha.byteAt L i) = Sha.padF L n (i + 1)) := by rw [← a4]; exact rfl
      clear ho
      go_wp2
      go_roundw
      case rel =>
        refine ⟨i + 1, by omega, by go_num, ?_⟩
        rw [Sha.byteAt_val, ← HO.out]
        exact HE.out
      case measure => simp [intOf]; omega
    · obtain rfl : i = 8 := by omega
      have hcv := run_str n _ wr _ hm.row
      go_wp2
      go_ret
      exact ⟨by rw [HE.out]; rfl, hm.below⟩
end Go.Proofs.YtdbbgpcjclmelaaGreatDoor.Sa
namespace Go.Proofs.YtdbbgpcjclmelaaGreatDoor.Sa
open Go.RowKit
structure OutMem (N : Nat) (h : Nat → BitVec 32) (f : Nat → UInt8) (w0 w : World) : Prop where
  below : Below N w0 w
  words : w.heap[N]? = some (.cells (Sha.wordsA 8 h) 94 (0, 0))
  row : w.heap[N + 1]? = some (.cells (Sha.bytesA 32 f) 149 (0, 0))
theorem OutMem.put {N : Nat} {h : Nat → BitVec 32} {f : Nat → UInt8} {w0 w : World} (hm : OutMem N h f w0 w) (i : Nat) (v : UInt8) : OutMem N h (Sha.up f i v) w0 (w.setCell ⟨N + 1, i, none⟩ (.int .u8 (v.toNat : Int))) :=
  ⟨hm.below.setCell (p := ⟨N + 1, i, none⟩) (by simp) _, by rw [row_other _ (by omega)]; exact hm.words, row_store8 v hm.row⟩
theorem run_str54 (n : Nat) (f : Nat → UInt8) (w : World) (g : Nat) (h : w.heap[g]? = some (.cells (Sha.bytesA n f) 149 (0, 0))) :
    (convert 54 9 (.slice (some ⟨g, 0, none⟩) n n)).run Tryz.prog w = .ok (.string (Sha.bstr n f)) w := by
  rw [← Sha.str_of]
  refine run_convert_bytes_arg (P := Tryz.prog) w 54 5 Tryz.underlying54 Tryz.underlying5 g 0 n n _ (Sha.ints_len n f) (fun i hi => ?_) 9 Tryz.underlying9
  rw [Nat.zero_add, cell_of_row _ _ i _ _ _ h, Sha.bytesA_at _ _ _ hi, Sha.ints_at _ _ _ hi]
theorem zeros32 : Sha.bytesA 32 (fun _ => 0) = (List.replicate 32 (Value.int .u8 0)).toArray := by
  simp [Sha.bytesA, Sha.bytesL, Sha.byte, List.replicate, List.range, List.range.loop]
set_option maxHeartbeats 400000 in
set_option maxRecDepth 100000 in
theorem out_any (h : Nat → BitVec 32) (w : World) :
    Calls Tryz.prog 80 #[.agg (Sha.wordsA 8 h)] w fun e w' => e = .returned (.string (Sha.out h)) ∧ Below w.heap.size w w' := by
  go_enter Tryz.func80, Tryz.ntmps80
  go_wp2
  go_loopw [5] (fun t w' => ∃ i : Nat, i ≤ 32 ∧ t = .int .i64 i ∧ OutMem w.heap.size h (Sha.outF h i) w w') (fun t _ => 32 - (intOf t).toNat)
  case atStart =>
    refine ⟨0, by omega, rfl, ⟨((Below.refl _ _).alloc (Nat.le_refl _) _).alloc (by simp) _, ?_, ?_⟩⟩
    · rw [Below.heap_alloc _ _ _ (by simp)]; exact alloc_at rfl
    · have e : Sha.bytesA 32 (Sha.outF h 0) = (List.replicate 32 (Value.int .u8 0)).toArray := zeros32
      rw [e]; exact alloc_at (by simp)
  case round =>
    obtain ⟨i, hi, rfl, hm⟩ := hrel
    by_cases hlt : i < 32
    · have hid : decide ((i : Int) < 32) = true := by simp; omega
      obtain ⟨x, hx⟩ : ∃ x, x = h (i / 4) := ⟨_, rfl⟩
      have c1 : wr.cell? ⟨w.heap.size, i / 4, none⟩ = some (.int .u32 (x.toNat : Int)) := by rw [cell_of_row _ _ (i / 4) _ _ _ hm.words, Sha.wordsA_at _ _ _ (by omega), hx]
      have c2 := cell_of_row _ _ i _ _ _ hm.row
      rw [Sha.bytesA_at _ _ _ hlt] at c2
      have hf : wr.frozen? ⟨w.heap.size + 1, i, none⟩ = false := by simp [World.frozen?, hm.row]
      have a1 : (i : Int) / 4 < 8 := by omega
      have a2 : (i : Int) < 32 := by omega
      have a3 : (0 : Int) ≤ (i : Int) := by omega
      have a4 : (0 : Int) ≤ (i : Int) / 4 := by omega
      have a5 : ((i : Int) / 4).toNat = i / 4 := by omega
      have xl := x.isLt
      have HE := hideIt (hm.put i (Sha.outByte h i))
      have HX := hideIt hx
      clear hx
      go_wp2
      go_roundw
      case rel =>
        refine ⟨i + 1, by omega, by go_num, ?_⟩
        rw [Sha.out_val, HX.out, ← Sha.outF_next]
        exact HE.out
      case measure => simp [intOf]; omega
    · obtain rfl : i = 32 := by omega
      have hcv := run_str54 32 _ wr _ hm.row
      have e : Sha.bstr 32 (Sha.outF h 32) = Sha.out h := Sha.bstr_congr (fun k hk => by simp [Sha.outF, hk])
      rw [e] at hcv
      go_wp2
      go_ret
      exact ⟨rfl, hm.below⟩
end Go.Proofs.YtdbbgpcjclmelaaGreatDoor.Sa
namespace Go.Proofs.YtdbbgpcjclmelaaGreatDoor.Sa
namespace Sha
theorem bePart_congr {b c : Nat → UInt8} (i : Nat) (hi : i < 16) (h : ∀ k, k < 64 → b k = c k) : ∀ j, j ≤ 4 → bePart b i j = bePart c i j
  | 0, _ => rfl
  | j + 1, hj => by rw [bePart, bePart, bePart_congr i hi h j (by omega), h _ (by omega)]
theorem first_congr {b c : Nat → UInt8} (h : ∀ k, k < 64 → b k = c k) : first b 16 = first c 16 := by
  funext k
  simp only [first]
  by_cases hk : k < 16
  · simp only [hk, if_true]; exact bePart_congr k hk h 4 (Nat.le_refl _)
  · simp only [hk, if_false]
theorem ext_congr {b c : Nat → UInt8} (h : ∀ k, k < 64 → b k = c k) : ∀ n, ext b n = ext c n
  | 0 => first_congr h
  | n + 1 => by rw [ext, ext, ext_congr h n]
theorem mix_congr {b c : Nat → UInt8} (w : Nat → BitVec 32) (h : ∀ k, k < 64 → b k = c k) : mix w b = mix w c := by
  rw [mix, mix, plan, plan, ext_congr h]
def fn (M : List UInt8) (k : Nat) : UInt8 := M.getD k 0
def hashed (f : Nat → UInt8) : Nat → Nat → BitVec 32
  | 0 => init
  | j + 1 => mix (hashed f j) (fun k => f (64 * j + k))
theorem hashed_congr {f g : Nat → UInt8} : ∀ j, (∀ k, k < 64 * j → f k = g k) → hashed f j = hashed g j
  | 0, _ => rfl
  | j + 1, h => by
    rw [hashed, hashed, hashed_congr j (fun k hk => h k (by omega))]
    exact mix_congr _ (fun k hk => h _ (by omega))
def over (b : Nat → UInt8) (o : Nat) (l : List UInt8) : Nat → UInt8 := fun k => if o ≤ k ∧ k < o + l.length then l.getD (k - o) 0 else b k
structure Rep (M : List UInt8) (h : Nat → BitVec 32) (b : Nat → UInt8) : Prop where
  words : h = hashed (fn M) (M.length / 64)
  block : ∀ k, k < M.length % 64 → b k = fn M (64 * (M.length / 64) + k)
theorem fn_left (M N : List UInt8) (k : Nat) (h : k < M.length) : fn (M ++ N) k = fn M k := by
  simp [fn, List.getD, List.getElem?_append_left h]
theorem fn_right (M N : List UInt8) (k : Nat) (h : M.length ≤ k) : fn (M ++ N) k = fn N (k - M.length) := by
  simp [fn, List.getD, List.getElem?_append_right h]
theorem over_fn {M l : List UInt8} {h : Nat → BitVec 32} {b : Nat → UInt8} (hr : Rep M h b) (k : Nat) (hk : k < M.length % 64 + l.length) :
    over b (M.length % 64) l k = fn (M ++ l) (64 * (M.length / 64) + k) := by
  unfold over
  by_cases h1 : M.length % 64 ≤ k ∧ k < M.length % 64 + l.length
  · rw [if_pos h1, fn_right _ _ _ (by omega), fn]
    congr 1
    omega
  · rw [if_neg h1, fn_left _ _ _ (by omega), hr.block k (by omega)]
theorem Rep.part {M l : List UInt8} {h : Nat → BitVec 32} {b : Nat → UInt8} (hr : Rep M h b) (hl : M.length % 64 + l.length < 64) : Rep (M ++ l) h (over b (M.length % 64) l) := by
  have e : (M ++ l).length / 64 = M.length / 64 := by simp; omega
  constructor
  · rw [e, hr.words]
    exact hashed_congr _ (fun k hk => (fn_left _ _ _ (by omega)).symm)
  · intro k hk
    rw [e]
    exact over_fn hr k (by simp at hk; omega)
theorem Rep.full {M l : List UInt8} {h : Nat → BitVec 32} {b : Nat → UInt8} (hr : Rep M h b) (hl : M.length % 64 + l.length = 64) : Rep (M ++ l) (mix h (over b (M.length % 64) l)) (over b (M.length % 64) l) := by
  have e : (M ++ l).length / 64 = M.length / 64 + 1 := by simp; omega
  constructor
  · rw [e, hashed, hr.words, hashed_congr (f := fn (M ++ l)) (g := fn M) _ (fun k hk => fn_left _ _ _ (by omega))]
    refine mix_congr _ (fun k hk => ?_)
    have := over_fn hr (l := l) k (by omega)
    exact this
  · intro k hk
    simp at hk
    omega
theorem Rep.start (b : Nat → UInt8) : Rep [] init b := ⟨rfl, fun k hk => by simp at hk⟩
/-! The state's row in memory. -/
def stL (h : Nat → BitVec 32) (b : Nat → UInt8) (n : Nat) : List Value := wordsL 8 h ++ (bytesL 64 b ++ [.int .u64 (n : Int)])
def stA (h : Nat → BitVec 32) (b : Nat → UInt8) (n : Nat) : Array Value := (stL h b n).toArray
theorem wordsL_len (n : Nat) (h : Nat → BitVec 32) : (wordsL n h).length = n := by simp [wordsL]
theorem bytesL_len (n : Nat) (b : Nat → UInt8) : (bytesL n b).length = n := by simp [bytesL]
theorem stL_len (h : Nat → BitVec 32) (b : Nat → UInt8) (n : Nat) : (stL h b n).length = 73 := by simp [stL, wordsL_len, bytesL_len]
theorem stL_get (h : Nat → BitVec 32) (b : Nat → UInt8) (n k : Nat) :
    (stL h b n)[k]? = if k < 8 then some (word (h k)) else if k < 72 then some (byte (b (k - 8))) else if k = 72 then some (.int .u64 (n : Int)) else none := by
  unfold stL
  by_cases h1 : k < 8
  · rw [List.getElem?_append_left (by rw [wordsL_len]; exact h1), if_pos h1]
    simp [wordsL, h1]
  · rw [List.getElem?_append_right (by rw [wordsL_len]; omega), if_neg h1, wordsL_len]
    by_cases h2 : k < 72
    · rw [List.getElem?_append_left (by rw [bytesL_len]; omega), if_pos h2]
      simp [bytesL, show k - 8 < 64 by omega]
    · rw [List.getElem?_append_right (by rw [bytesL_len]; omega), if_neg h2, bytesL_len]
      by_cases h3 : k = 72
      · subst h3; simp
      · rw [if_neg h3]; simp; omega
theorem stA_at (h : Nat → BitVec 32) (b : Nat → UInt8) (n k : Nat) : (stA h b n)[k]? = if k < 8 then some (word (h k)) else if k < 72 then some (byte (b (k - 8))) else if k = 72 then some (.int .u64 (n : Int)) else none := by
  rw [stA, List.getElem?_toArray, stL_get]
theorem splice_get {α : Type} (L cs : List α) (o k : Nat) (h : o + cs.length ≤ L.length) :
    (splice L o cs)[k]? = if k < o then L[k]? else if k < o + cs.length then cs[k - o]? else L[k]? := by
  unfold splice
  by_cases h1 : k < o
  · rw [if_pos h1, List.getElem?_append_left (by simp; omega), List.getElem?_take, if_pos h1]
  · rw [if_neg h1, List.getElem?_append_right (by simp; omega)]
    have e : (List.take o L).length = o := by simp; omega
    rw [e]
    by_cases h2 : k < o + cs.length
    · rw [if_pos h2, List.getElem?_append_left (by omega)]
    · rw [if_neg h2, List.getElem?_append_right (by omega), List.getElem?_drop]
      congr 1
      omega
theorem stL_bytes (h : Nat → BitVec 32) (b : Nat → UInt8) (n o : Nat) (l : List UInt8) (ho : o + l.length ≤ 64) :
    splice (stL h b n) (8 + o) (l.map byte) = stL h (over b o l) n := by
  apply List.ext_getElem?
  intro k
  rw [splice_get _ _ _ _ (by rw [stL_len]; simp; omega), stL_get, stL_get]
  simp only [List.length_map]
  by_cases h1 : k < 8 + o
  · rw [if_pos h1]
    by_cases h2 : k < 8
    · simp [h2]
    · have : ¬ (o ≤ k - 8 ∧ k - 8 < o + l.length) := by omega
      simp only [h2, if_false, over, this]
  · rw [if_neg h1]
    by_cases h3 : k < 8 + o + l.length
    · have h4 : ¬ k < 8 := by omega
      have h5 : k < 72 := by omega
      have h6 : o ≤ k - 8 ∧ k - 8 < o + l.length := by omega
      rw [if_pos h3, if_neg h4, if_pos h5]
      simp only [over, h6]
      rw [List.getElem?_map, show k - (8 + o) = k - 8 - o by omega, List.getElem?_eq_getElem (show k - 8 - o < l.length by omega)]
      simp [List.getD, List.getElem?_eq_getElem (show k - 8 - o < l.length by omega)]
    · rw [if_neg h3]
      by_cases h4 : k < 8
      · omega
      · have : ¬ (o ≤ k - 8 ∧ k - 8 < o + l.length) := by omega
        simp only [h4, if_false, over, this]
theorem stA_len_set (h : Nat → BitVec 32) (b : Nat → UInt8) (n m : Nat) : (stA h b n).setIfInBounds 72 (.int .u64 (m : Int)) = stA h b m := by
  apply Array.ext_getElem?
  intro k
  rw [Array.getElem?_setIfInBounds, stA_at, stA_at]
  by_cases hk : 72 = k
  · subst hk
    rw [if_pos rfl]
    simp [stA, stL_len]
  · rw [if_neg hk]
    have : ¬ k = 72 := fun e => hk e.symm
    simp only [this, if_false]
theorem stL_words (h g : Nat → BitVec 32) (b : Nat → UInt8) (n : Nat) : splice (stL h b n) 0 (wordsL 8 g) = stL g b n := by
  apply List.ext_getElem?
  intro k
  rw [splice_get _ _ _ _ (by rw [stL_len, wordsL_len]; omega), stL_get, stL_get, wordsL_len]
  by_cases h1 : k < 8
  · simp [h1, wordsL]
  · simp [h1]
end Sha
end Go.Proofs.YtdbbgpcjclmelaaGreatDoor.Sa
namespace Go.Proofs.YtdbbgpcjclmelaaGreatDoor.Sa
open Go.RowKit
theorem zero73 : Sha.stA (fun _ => 0#32) (fun _ => 0) 0 = ((List.replicate 8 (Value.int .u32 0)) ++ (List.replicate 64 (Value.int .u8 0)) ++ [Value.int .u64 0]).toArray := by kernel_rfl
theorem stA_size (h : Nat → BitVec 32) (b : Nat → UInt8) (n : Nat) : (Sha.stA h b n).size = 73 := by simp [Sha.stA, Sha.stL_len]
theorem info45 (h : Nat → BitVec 32) (b : Nat → UInt8) (n : Nat) : (Tryz.prog.info? 119).map (·.size) = some (Sha.stA h b n).size := by
  rw [stA_size]; kernel_rfl
set_option maxHeartbeats 400000 in
set_option maxRecDepth 100000 in
theorem new_any (w : World) :
    Calls Tryz.prog 53 #[] w fun e w' => e = .returned (.pointer (some ⟨w.heap.size, 0, none⟩)) ∧ w' = w.alloc (.cells (Sha.stA (fun _ => 0#32) (fun _ => 0) 0) 119) := by
  go_enter Tryz.func53, Tryz.ntmps53
  go_wp2_with (first | (refine wpList_build_as rfl 119 _ rfl (Sha.stA (fun _ => 0#32) (fun _ => 0) 0) (by kernel_rfl) ?_))
  go_ret
  exact ⟨rfl, rfl⟩
set_option maxHeartbeats 400000 in
set_option maxRecDepth 100000 in
theorem write_nil (s : ByteArray) (w : World) : Calls Tryz.prog 54 #[.pointer none, .string s] w fun e w' => e = .returned (.tuple #[]) ∧ w' = w := by
  go_enter Tryz.func54, Tryz.ntmps54
  go_wp2
  exact bodyPost_ret (results_none Tryz.results54 _ _ _) rfl ⟨rfl, rfl⟩
set_option maxHeartbeats 400000 in
set_option maxRecDepth 100000 in
theorem sum_nil (w : World) : Calls Tryz.prog 55 #[.pointer none] w fun e w' => e = .returned (.string ⟨#[]⟩) ∧ w' = w := by
  go_enter Tryz.func55, Tryz.ntmps55
  go_wp2
  go_ret
  exact ⟨rfl, rfl⟩
/-- All blocks but one are as they were. -/
structure But (g : Nat) (w w' : World) : Prop where
  os : w'.os = w.os
  tape : w'.tape = w.tape
  output : w'.output = w.output
  size : w.heap.size ≤ w'.heap.size
  block : ∀ k, k < w.heap.size → k ≠ g → w'.heap[k]? = w.heap[k]?
theorem But.refl (g : Nat) (w : World) : But g w w := ⟨rfl, rfl, rfl, Nat.le_refl _, fun _ _ _ => rfl⟩
theorem But.trans {g : Nat} {a b c : World} (h : But g a b) (k : But g b c) : But g a c :=
  ⟨k.os.trans h.os, k.tape.trans h.tape, k.output.trans h.output, Nat.le_trans h.size k.size, fun i hi hg => (k.block i (Nat.lt_of_lt_of_le hi h.size) hg).trans (h.block i hi hg)⟩
theorem But.drew {g : Nat} {a w : World} (h : But g a w) : But g a w.drew := ⟨h.os, h.tape, h.output, h.size, h.block⟩
theorem But.of_below {g : Nat} {a w : World} (h : Below a.heap.size a w) : But g a w := ⟨h.os, h.tape, h.output, h.size, fun k hk _ => h.block k hk⟩
theorem But.setRow {g : Nat} {a w : World} (h : But g a w) (cs : Array Value) : But g a (w.setRow g cs) :=
  ⟨h.os, h.tape, h.output, by simpa using h.size, fun k hk hg => by rw [setRow_other _ _ _ _ hg]; exact h.block k hk hg⟩
theorem But.setCell {g : Nat} {a w : World} (h : But g a w) (i : Nat) (v : Value) : But g a (w.setCell ⟨g, i, none⟩ v) :=
  ⟨h.os, h.tape, h.output, by simpa using h.size, fun k hk hg => by rw [row_other _ hg]; exact h.block k hk hg⟩
structure StMem (g n : Nat) (h : Nat → BitVec 32) (b : Nat → UInt8) (w0 w : World) : Prop where
  but : But g w0 w
  row : w.heap[g]? = some (.cells (Sha.stA h b n) 119 (0, 0))
/-- 'copy' of a text into a row: as many bytes as there is room for. -/
theorem run_copy_str {P : Program} (w : World) (dT sT ty elem : TypeId) (g o dLen dCap : Nat) (s : ByteArray) (cur : List Value) (t : TypeId) (m : Nat) (hm : m = Nat.min s.size dLen)
    (hu : P.underlying dT = some (.slice elem)) (hs : (P.info? elem).map (·.size) = some 1) (hg : w.heap[g]? = some (.cells cur.toArray t (0, 0))) (hfit : o + m ≤ cur.length) :
    (Builtin.copy_ #[dT, sT] ty #[.slice (some ⟨g, o, none⟩) dLen dCap, .string s]).run P w = .ok (goInt m) (w.setRow g (splice cur o ((s.data.toList.take m).map Sha.byte)).toArray) := by
  have hsl : s.data.toList.length = s.size := by rw [Array.length_toList]; rfl
  have hlen : ((s.data.toList.take m).map Sha.byte).length = m := by
    rw [List.length_map, List.length_take, hsl, hm]; exact Nat.min_eq_left (Nat.min_le_left _ _)
  have hst := run_storeCells_at P g o t ((s.data.toList.take m).map Sha.byte) 0 cur.toArray w hg (by rw [hlen]; simpa using hfit) (by
    intro v hv
    obtain ⟨x, _, rfl⟩ := List.mem_map.1 hv
    rfl)
  rw [hlen] at hst
  simp only [Nat.add_zero] at hst
  cases hq : P.info? elem with
  | none => simp [hq] at hs
  | some i =>
    have hi : i.size = 1 := by simpa [hq] using hs
    simp [Builtin.copy_, run_underlying hu, Builtin.lenOf, Builtin.firstCells, sizeOf, typeInfo, hq, ← hm]
    have e1 : List.take m (List.map (fun b : UInt8 => Value.int IntKind.u8 (b.toNat : Int)) s.data.toList) = (s.data.toList.take m).map Sha.byte := by rw [List.map_take]; rfl
    rw [e1, hst, ← List.map_take]
    show Result.ok _ _ = _
    congr 3
    rw [splice, hlen, List.append_assoc]
theorem step_copy_str {P : Program} {ops : Array Oper} {o : Oper} {a : Act} {w : World} {K : Act → World → Prop} {Q : Exit → Act → World → Prop} {E : Prop} (hgd : o.guard = none) (d x : Operand) (dT sT : TypeId)
    (ho : o.op = .call { callee := .builtin .copy, args := #[d, x], argTypes := #[dT, sT] }) (elem : TypeId) (hu : P.underlying dT = some (.slice elem)) (hsz : (P.info? elem).map (·.size) = some 1)
    (g off dLen dCap : Nat) (hd : a.eval d = .slice (some ⟨g, off, none⟩) dLen dCap) (s : ByteArray) (hx : a.eval x = .string s) (cur : List Value) (t : TypeId) (hg : w.heap[g]? = some (.cells cur.toArray t (0, 0)))
    (m : Nat) (hm : m = Nat.min s.size dLen) (hfit : off + m ≤ cur.length)
    (h : K (a.put o.dst (goInt m)) (w.setRow g (splice cur off ((s.data.toList.take m).map Sha.byte)).toArray)) :
    if Region.wanted o (yielded ops a.tmps) = true then Oper.wp P o a w K Q else E := by
  have hw : Region.wanted o (yielded ops a.tmps) = true := by simp [Region.wanted, hgd]
  rw [if_pos hw]
  have hrun := run_copy_str (P := P) w dT sT o.type elem g off dLen dCap s cur t m hm hu hsz hg hfit
  unfold Oper.wp
  simp [execOp, ho, resolve, invoke, builtin, hd, hx, hrun, Result.andThen]
  rw [List.map_take] at h
  exact h
theorem copy_keep {g q : Nat} {h : Nat → BitVec 32} {b b' : Nat → UInt8} {w : World} (hrow : w.heap[g]? = some (.cells (Sha.stA h b q) 119 (0, 0))) :
    (w.drew.setRow g (Sha.stL h b' q).toArray).cell? ⟨g, 72, none⟩ = some (.int .u64 (q : Int)) := by
  rw [cell_of_row _ _ 72 _ _ _ (setRow_heap w.drew _ _ _ _ _ (show w.drew.heap[g]? = _ from hrow))]
  exact Sha.stA_at h b' q 72
theorem StMem.len {g q : Nat} {h : Nat → BitVec 32} {b : Nat → UInt8} {w0 w : World} (hm : StMem g q h b w0 w) (m : Nat) :
    StMem g (q + m) h b w0 (w.setCell ⟨g, 72, none⟩ (.int .u64 ((q : Int) + (m : Int)))) := by
  refine ⟨hm.but.setCell 72 _, ?_⟩
  rw [heap_setCell_same w g 72 _ 119 _ hm.row, show (q : Int) + (m : Int) = ((q + m : Nat) : Int) by omega, Sha.stA_len_set]
theorem StMem.drew {g q : Nat} {h : Nat → BitVec 32} {b : Nat → UInt8} {w0 w : World} (hm : StMem g q h b w0 w) : StMem g q h b w0 w.drew := ⟨hm.but.drew, hm.row⟩
theorem info39L (f : Nat → BitVec 32) : (Tryz.prog.info? 94).map (·.size) = some (Sha.wordsL 8 f).length := by rw [Sha.wordsL_len]; kernel_rfl
theorem info43L (f : Nat → UInt8) : (Tryz.prog.info? 117).map (·.size) = some (Sha.bytesL 64 f).length := by rw [Sha.bytesL_len]; kernel_rfl
theorem st_rangeW {g q : Nat} {h : Nat → BitVec 32} {b : Nat → UInt8} {w0 w : World} (hm : StMem g q h b w0 w) : w.rangeAt g 0 (Sha.wordsL 8 h) := by
  intro j v hv
  have hj : j < 8 := by
    have := (List.getElem?_eq_some_iff.1 hv).1
    rwa [Sha.wordsL_len] at this
  rw [Nat.zero_add, cell_of_row w _ j _ _ _ hm.row, Sha.stA_at, if_pos hj, ← hv]
  simp [Sha.wordsL, hj]
theorem st_rangeB {g q : Nat} {h : Nat → BitVec 32} {b : Nat → UInt8} {w0 w : World} (hm : StMem g q h b w0 w) : w.rangeAt g 8 (Sha.bytesL 64 b) := by
  intro j v hv
  have hj : j < 64 := by
    have := (List.getElem?_eq_some_iff.1 hv).1
    rwa [Sha.bytesL_len] at this
  rw [cell_of_row w _ (8 + j) _ _ _ hm.row, Sha.stA_at, if_neg (by omega), if_pos (by omega), ← hv, show 8 + j - 8 = j by omega]
  simp [Sha.bytesL, hj]
theorem st_K {g q : Nat} {h : Nat → BitVec 32} {b : Nat → UInt8} {w0 w : World} (hm : StMem g q h b w0 w) (hg : 0 < g) (hK : KAt w0) : KAt w := by
  intro i hi
  have hz : 0 < w0.heap.size := block_lt_of_cell (hK 0 (by omega))
  have hb := hm.but.block 0 hz (by omega)
  have e : w.cell? ⟨0, i, none⟩ = w0.cell? ⟨0, i, none⟩ := World.cell?_of_block (w := w0) hb
  rw [e, hK i hi]
theorem st_there {g q : Nat} {h : Nat → BitVec 32} {b : Nat → UInt8} {w0 w w4 : World} (hm : StMem g q h b w0 w) (hb : Below w.heap.size w w4) {f : Nat → BitVec 32} : w4.there g 0 (Sha.wordsA 8 f).size := by
  have hlt : g < w.heap.size := (Array.getElem?_eq_some_iff.1 hm.row).1
  have hr : w4.heap[g]? = some (.cells (Sha.stA h b q) 119 (0, 0)) := (hb.block g hlt).trans hm.row
  intro j hj
  rw [Sha.wordsA_size] at hj
  constructor
  · rw [Nat.zero_add, cell_of_row w4 _ j _ _ _ hr, Sha.stA_at, if_pos hj]; rfl
  · simp [World.frozen?, hr]
theorem heap_setCells {g : Nat} {t : TypeId} : ∀ (vs : List Value) (o : Nat) (w : World) (cur : List Value), w.heap[g]? = some (.cells cur.toArray t (0, 0)) → o + vs.length ≤ cur.length →
    (w.setCells g o vs).heap[g]? = some (.cells (splice cur o vs).toArray t (0, 0))
  | [], o, w, cur, h, _ => by rw [World.setCells, h]; simp [splice]
  | v :: r, o, w, cur, h, hl => by
    have hs := heap_setCell_same w g o _ t v h
    have ih := heap_setCells r (o + 1) (w.setCell ⟨g, o, none⟩ v) (cur.set o v) (t := t) (by rw [hs]; simp) (by simp at hl ⊢; omega)
    rw [World.setCells, ih]
    congr 3
    apply List.ext_getElem?
    intro k
    simp at hl
    rw [Sha.splice_get _ _ _ _ (by simp; omega), Sha.splice_get _ _ _ _ (by simp; omega)]
    simp only [List.length_cons]
    by_cases h1 : k < o
    · rw [if_pos (by omega), if_pos h1, List.getElem?_set_ne (by omega)]
    · by_cases h2 : k = o
      · subst h2
        rw [if_pos (by omega), if_neg (by omega), if_pos (by omega)]
        simp [show k < cur.length by omega]
      · rw [if_neg (by omega), if_neg h1]
        by_cases h3 : k < o + 1 + r.length
        · rw [if_pos h3, if_pos (by omega), show k - o = (k - (o + 1)) + 1 by omega, List.getElem?_cons_succ]
        · rw [if_neg h3, if_neg (by omega), List.getElem?_set_ne (by omega)]
theorem But.setCells {g : Nat} {a : World} : ∀ (vs : List Value) (o : Nat) (w : World), But g a w → But g a (w.setCells g o vs)
  | [], _, _, h => h
  | v :: r, o, _, h => But.setCells r (o + 1) _ (h.setCell o v)
theorem st_words {g q : Nat} {h : Nat → BitVec 32} {b : Nat → UInt8} {w0 w w4 : World} (hm : StMem g q h b w0 w) (hb : Below w.heap.size w w4) (f : Nat → BitVec 32) :
    StMem g q f b w0 (w4.setCells g 0 (Sha.wordsA 8 f).toList) := by
  have hlt : g < w.heap.size := (Array.getElem?_eq_some_iff.1 hm.row).1
  have hr : w4.heap[g]? = some (.cells (Sha.stA h b q) 119 (0, 0)) := (hb.block g hlt).trans hm.row
  refine ⟨(hm.but.trans (But.of_below hb)).setCells _ _ _, ?_⟩
  have e : (Sha.wordsA 8 f).toList = Sha.wordsL 8 f := rfl
  rw [e, heap_setCells _ _ _ _ hr (by rw [Sha.stL_len, Sha.wordsL_len]; omega), Sha.stL_words]
  rfl
theorem wp_load_as {P : Program} {op : Oper} {a : Act} {w : World} {K : Act → World → Prop} {Q : Exit → Act → World → Prop} (ty : TypeId) (x : Operand) (ho : op.op = .load ty x)
    (b o : Nat) (hx : a.eval x = .pointer (some ⟨b, o, none⟩)) (cs : List Value) (arr : Array Value) (harr : arr = cs.toArray) (d : TypeDesc) (hc : w.rangeAt b o cs)
    (hu : P.underlying ty = some d) (hd : d.isRow = true) (hi : (P.info? ty).map (·.size) = some cs.length)
    (h : K (a.put op.dst (.agg arr)) w) : op.wp P a w K Q := by
  subst harr
  exact wp_load_mid ty x ho b o hx cs d hc hu hd hi h
def slen : Value → Nat
  | .string s => s.size
  | _ => 0
def wr_rel (g n : Nat) (M t : List UInt8) (w : World) (v : Value) (w' : World) : Prop :=
  ∃ (dn : List UInt8) (s : ByteArray) (h' : Nat → BitVec 32) (b' : Nat → UInt8), dn ++ s.data.toList = t ∧ v = .string s ∧ StMem g (n + dn.length) h' b' w w' ∧ Sha.Rep (M ++ dn) h' b'
theorem wr_next {g n q m : Nat} {M t dn : List UInt8} {s : ByteArray} {h2 : Nat → BitVec 32} {b2 : Nat → UInt8} {w w3 : World} (hdr : dn ++ s.data.toList = t) (hq : n + dn.length = q) (hm : m ≤ s.size)
    (hst : StMem g (q + m) h2 b2 w w3) (hrep : Sha.Rep (M ++ dn ++ s.data.toList.take m) h2 b2) : wr_rel g n M t w (.string (s.extract m s.size)) w3 := by
  have hsl : s.data.toList.length = s.size := by rw [Array.length_toList]; rfl
  refine ⟨dn ++ s.data.toList.take m, s.extract m s.size, h2, b2, ?_, rfl, ?_, ?_⟩
  · have e : (s.extract m s.size).data.toList = s.data.toList.drop m := by
      rw [ByteArray.data_extract, Array.toList_extract, List.extract_eq_take_drop, List.take_of_length_le]
      rw [List.length_drop, hsl]
      exact Nat.le_refl _
    rw [e, List.append_assoc, List.take_append_drop, hdr]
  · have e : n + (dn ++ s.data.toList.take m).length = q + m := by rw [List.length_append, List.length_take, hsl]; omega
    rw [e]; exact hst
  · rw [← List.append_assoc]; exact hrep
set_option maxHeartbeats 1000000 in
set_option maxRecDepth 100000 in
theorem write_any (g : Nat) (M : List UInt8) (h : Nat → BitVec 32) (b : Nat → UInt8) (t : List UInt8) (w : World) (hK : KAt w) (hg : 0 < g)
    (hrow : w.heap[g]? = some (.cells (Sha.stA h b M.length) 119 (0, 0))) (hrep : M ≠ [] → Sha.Rep M h b) (hsz : M.length + t.length < 1000000000) :
    Calls Tryz.prog 54 #[.pointer (some ⟨g, 0, none⟩), .string ⟨t.toArray⟩] w fun e w' => e = .returned (.tuple #[]) ∧ ∃ h' b', StMem g (M.length + t.length) h' b' w w' ∧ Sha.Rep (M ++ t) h' b' := by
  have HK := hideIt hK
  have HR := hideIt hrow
  have HP := hideIt hrep
  clear hK hrep
  obtain ⟨n, hn⟩ : ∃ n, M.length = n := ⟨_, rfl⟩
  have cn : w.cell? ⟨g, 72, none⟩ = some (.int .u64 (n : Int)) := by rw [cell_of_row _ _ 72 _ _ _ hrow, Sha.stA_at, hn]; rfl
  clear hrow
  have HN := hideIt hn
  rcases Nat.eq_zero_or_pos n with hn0 | hn0
  · have h0 : ((n : Int) == 0) = true := by simp [hn0]
    have hM : M = [] := List.eq_nil_of_length_eq_zero (by omega)
    have hm0 : StMem g n h b w w := ⟨But.refl _ _, by rw [HR.out, hn]⟩
    have HM0 := hideIt hm0
    have HN0 := hideIt hn0
    have HM := hideIt hM
    clear hn hn0 hm0 hM
    go_enter Tryz.func54, Tryz.ntmps54
    go_wp2_with (first | (go_at_call 77; refine (firsts_any _).mono ?_; rintro e w1 ⟨rfl, hb1⟩) | (refine wpList_store_mid rfl 94 _ _ rfl g 0 (Sha.wordsA 8 Sha.init) rfl rfl (st_there HM0.out hb1) (info39 _) (words_all _ _) ?_))
    simp only [Act.put]
    have HS : wr_rel g n M t w (.string ⟨t.toArray⟩) (w1.setCells g 0 (Sha.wordsA 8 Sha.init).toList) :=
      ⟨[], ⟨t.toArray⟩, Sha.init, b, rfl, rfl, st_words HM0.out hb1 Sha.init, by rw [HM.out]; exact Sha.Rep.start b⟩
    go_loopw [1] (fun v w' => wr_rel g n M t w v w') (fun v _ => slen v)
    case atStart => exact HS
    case round =>
      obtain ⟨dn, s, h1, b1, hdr, rfl, hm, hrep⟩ := hrel
      have hsl : s.data.toList.length = s.size := by rw [Array.length_toList]; rfl
      obtain ⟨q, hq⟩ : ∃ q, n + dn.length = q := ⟨_, rfl⟩
      rw [hq] at hm
      have cq : wr.cell? ⟨g, 72, none⟩ = some (.int .u64 (q : Int)) := by rw [cell_of_row _ _ 72 _ _ _ hm.row, Sha.stA_at]; rfl
      have hql : (q : Int) < 1000000000 := by have e := congrArg List.length hdr; have := HN.out; rw [List.length_append] at e; omega
      have HQ := hideIt hq
      have HDR := hideIt hdr
      by_cases hlt : 0 < s.size
      · have hl0 : (0 : Int) < (s.size : Int) := by omega
        have hl1 : (s.size : Int) < 1000000000 := by have e := congrArg List.length hdr; rw [List.length_append] at e; omega
        obtain ⟨r, hr⟩ : ∃ r, r = q % 64 := ⟨_, rfl⟩
        have r1 : (q : Int) % 64 = (r : Int) := by omega
        have r0 : (q : Int).tmod 64 = (r : Int) := by rw [Int.tmod_eq_emod_of_nonneg (by omega)]; exact r1
        have r2 : (r : Int) < 64 := by omega
        have r3 : (0 : Int) ≤ (r : Int) := by omega
        have r4 : (r : Int) ≤ 64 := by omega
        have r5 : r ≤ 64 := by omega
        have r6 : ¬ 64 = r := by omega
        obtain ⟨m, hm1⟩ : ∃ m, m = min s.size (64 - r) := ⟨_, rfl⟩
        have hm2 : m ≤ s.size := by omega
        have hm3 : r + m ≤ 64 := by omega
        have hm4 : 0 < m := by omega
        have hm5 : m < s.size → r + m = 64 := by omega
        have HM1 := hideIt hm1
        have HM5 := hideIt hm5
        clear hm1 hm5
        have HRQ := hideIt hr
        clear hsl hq hdr hsz HS hr
        go_wp2
        go_region_held3 (fun w' => w'.cell? ⟨g, 72, none⟩ = some (.int .u64 (q : Int))) (first | (go_keep; done) | (exact copy_keep hm.row))
          ((refine step_copy_str (by rfl) (.tmp 27) (.tmp 28) 54 9 (by rfl) 5 Tryz.underlying54 (by kernel_rfl) g (8 + r) (64 - r) (64 - r) (by rfl) s (by rfl) (Sha.stL h1 b1 q) 119 (by exact hm.row) m (by exact HM1.out) (by rw [Sha.stL_len]; omega) ?_; rw [Sha.stL_bytes _ _ _ _ _ (by rw [List.length_take]; omega)]))
        obtain ⟨b2, hb2⟩ : ∃ b2, Sha.over b1 r (List.take m s.data.toList) = b2 := ⟨_, rfl⟩
        obtain ⟨w2, hw2⟩ : ∃ w2, wr.drew.setRow g (Sha.stL h1 (Sha.over b1 r (List.take m s.data.toList)) q).toArray = w2 := ⟨_, rfl⟩
        rw [hw2]
        have hm2' : StMem g q h1 b2 w w2 := by
          rw [← hw2, ← hb2]
          exact ⟨(hm.but.drew).setRow _, setRow_heap wr.drew _ _ _ _ _ (show wr.drew.heap[g]? = _ from hm.row)⟩
        have HB := hideIt hb2
        clear hw2 hb2 cq hm
        have cq : w2.cell? ⟨g, 72, none⟩ = some (.int .u64 (q : Int)) := by rw [cell_of_row _ _ 72 _ _ _ hm2'.row, Sha.stA_at]; rfl
        have fq : w2.frozen? ⟨g, 72, none⟩ = false := by simp [World.frozen?, hm2'.row]
        have hmI : (m : Int) ≤ (s.size : Int) := by omega
        have hm0 : (0 : Int) ≤ (m : Int) := by omega
        by_cases hfull : (q + m) % 64 = 0
        · have hb : (((q : Int) + (m : Int)) % 64 == 0) = true := by simp; omega
          have HF := hideIt hfull
          clear hfull
          go_wp2
          obtain ⟨w3, hw3⟩ : ∃ w3, w2.setCell ⟨g, 72, none⟩ (.int .u64 ((q : Int) + (m : Int))) = w3 := ⟨_, rfl⟩
          rw [hw3]
          have hm3' : StMem g (q + m) h1 b2 w w3 := by rw [← hw3]; exact hm2'.len m
          clear hw3 hm2' cq fq
          refine wp_region_any (by kernel_rfl) ?_
          change wpAny _ _ _ _ _ _ _ (World.drew _)
          refine wpAny_take (i := 0) (oi := ⟨some 48, .move (.tmp 0), 85, _, _, none⟩) (v := .pointer (some ⟨g, 0, none⟩)) rfl (by kernel_rfl) (by kernel_rfl) (by kernel_rfl) (fun _ _ _ h => h) (Or.inl ⟨by rfl, fun w => by go_simp⟩) ?_
          simp only [Act.put, List.setIfInBounds_toArray, List.set_cons_zero, List.set_cons_succ]
          refine wpAny_take (i := 1) (oi := ⟨some 49, .move (.tmp 0), 85, _, _, none⟩) (v := .pointer (some ⟨g, 0, none⟩)) rfl (by kernel_rfl) (by kernel_rfl) (by kernel_rfl) (fun _ _ _ h => h) (Or.inl ⟨by rfl, fun w => by go_simp⟩) ?_
          simp only [Act.put, List.setIfInBounds_toArray, List.set_cons_zero, List.set_cons_succ]
          refine wpAny_take (i := 2) (oi := ⟨some 50, .nilCheck (.tmp 49), 0, _, _, none⟩) (v := .pointer (some ⟨g, 0, none⟩)) rfl (by kernel_rfl) (by kernel_rfl) (by kernel_rfl) (fun _ _ _ h => h) (Or.inl ⟨by rfl, fun w => by go_simp⟩) ?_
          simp only [Act.put, List.setIfInBounds_toArray, List.set_cons_zero, List.set_cons_succ]
          refine wpAny_take (i := 3) (oi := ⟨some 51, .fieldAddr 119 (.tmp 50) 0, 0, _, _, none⟩) (v := .pointer (some ⟨g, 0, none⟩)) rfl (by kernel_rfl) (by kernel_rfl) (by kernel_rfl) (fun _ _ _ h => h) (Or.inl ⟨by rfl, fun w => by go_simp⟩) ?_
          simp only [Act.put, List.setIfInBounds_toArray, List.set_cons_zero, List.set_cons_succ]
          refine wpAny_take (i := 5) (oi := ⟨some 53, .move (.tmp 0), 85, _, _, none⟩) (v := .pointer (some ⟨g, 0, none⟩)) rfl (by kernel_rfl) (by kernel_rfl) (by kernel_rfl) (fun _ _ _ h => h) (Or.inl ⟨by rfl, fun w => by go_simp⟩) ?_
          simp only [Act.put, List.setIfInBounds_toArray, List.set_cons_zero, List.set_cons_succ]
          refine wpAny_take (i := 6) (oi := ⟨some 54, .nilCheck (.tmp 53), 0, _, _, none⟩) (v := .pointer (some ⟨g, 0, none⟩)) rfl (by kernel_rfl) (by kernel_rfl) (by kernel_rfl) (fun _ _ _ h => h) (Or.inl ⟨by rfl, fun w => by go_simp⟩) ?_
          simp only [Act.put, List.setIfInBounds_toArray, List.set_cons_zero, List.set_cons_succ]
          refine wpAny_take (i := 7) (oi := ⟨some 55, .fieldAddr 119 (.tmp 54) 1, 0, _, _, none⟩) (v := .pointer (some ⟨g, 8, none⟩)) rfl (by kernel_rfl) (by kernel_rfl) (by kernel_rfl) (fun _ _ _ h => h) (Or.inl ⟨by rfl, fun w => by go_simp⟩) ?_
          simp only [Act.put, List.setIfInBounds_toArray, List.set_cons_zero, List.set_cons_succ]
          have RA := hideIt (st_rangeW hm3'.drew)
          have RB := hideIt (st_rangeB hm3'.drew)
          have KA := hideIt (st_K hm3'.drew hg HK.out)
          refine wpAny_ready (rs := [4, 8]) (by kernel_rfl) (by simp) (AllReady.cons (o := ⟨some 52, .load 94 (.tmp 51), 94, _, _, none⟩) rfl (fun K hK => ?_) (AllReady.cons (o := ⟨some 56, .load 117 (.tmp 55), 117, _, _, none⟩) rfl (fun K hK => ?_) AllReady.nil))
          · rw [if_pos (by rfl)]
            refine wp_load_as 94 (.tmp 51) rfl g 0 rfl (Sha.wordsL 8 h1) (Sha.wordsA 8 h1) rfl _ RA.out Tryz.underlying94 rfl (info39L _) ?_
            refine hK _ _ ?_
            clear hK K
            simp only [Act.put, List.setIfInBounds_toArray, List.set_cons_zero, List.set_cons_succ]
            refine wpAny_ready (rs := [8]) (by kernel_rfl) (by simp) (AllReady.cons (o := ⟨some 56, .load 117 (.tmp 55), 117, _, _, none⟩) rfl (fun K hK => ?_) AllReady.nil)
            rw [if_pos (by rfl)]
            refine wp_load_as 117 (.tmp 55) rfl g 8 rfl (Sha.bytesL 64 b2) (Sha.bytesA 64 b2) rfl _ RB.out Tryz.underlying117 rfl (info43L _) ?_
            refine hK _ _ ?_
            clear hK K
            simp only [Act.put, List.setIfInBounds_toArray, List.set_cons_zero, List.set_cons_succ]
            refine wpAny_ready (rs := [9]) (by kernel_rfl) (by simp) (AllReady.cons (o := ⟨some 57, .call { callee := .value (.func 78), args := #[.tmp 52, .tmp 56], argTypes := #[94, 117] }, 94, _, _, none⟩) rfl (fun K hK => ?_) AllReady.nil)
            go_simp
            refine (mixed_any h1 b2 _ KA.out).mono ?_
            rintro e w4 ⟨rfl, hb4⟩
            refine hK _ _ ?_
            clear hK K
            refine wpAny_take (i := 10) (oi := ⟨some 58, .nilCheck (.tmp 48), 0, _, _, none⟩) (v := .pointer (some ⟨g, 0, none⟩)) rfl (by kernel_rfl) (by kernel_rfl) (by kernel_rfl) (fun _ _ _ h => h) (Or.inl ⟨by rfl, fun w => by go_simp⟩) ?_
            simp only [Act.put, List.setIfInBounds_toArray, List.set_cons_zero, List.set_cons_succ]
            refine wpAny_take (i := 11) (oi := ⟨some 59, .fieldAddr 119 (.tmp 58) 0, 0, _, _, none⟩) (v := .pointer (some ⟨g, 0, none⟩)) rfl (by kernel_rfl) (by kernel_rfl) (by kernel_rfl) (fun _ _ _ h => h) (Or.inl ⟨by rfl, fun w => by go_simp⟩) ?_
            simp only [Act.put, List.setIfInBounds_toArray, List.set_cons_zero, List.set_cons_succ]
            refine wpAny_ready (rs := [12]) (by kernel_rfl) (by simp) (AllReady.cons (o := ⟨none, .store 94 (.tmp 59) (.tmp 57), 0, _, _, none⟩) rfl (fun K hK => ?_) AllReady.nil)
            rw [if_pos (by rfl)]
            refine wp_store_mid 94 (.tmp 59) (.tmp 57) rfl g 0 (Sha.wordsA 8 (Sha.mix h1 b2)) rfl rfl (st_there hm3'.drew hb4) (info39 _) (words_all _ _) ?_
            refine hK _ _ ?_
            clear hK K
            simp only [Act.put]
            refine wpAny_done (by kernel_rfl) ?_ _
            have hm5' := hideIt (st_words hm3'.drew hb4 (Sha.mix h1 b2))
            go_wp2
            go_roundw
            case rel =>
              refine wr_next HDR.out HQ.out (by omega) hm5'.out ?_
              have hl : (M ++ dn).length = q := by rw [List.length_append, HN.out, HQ.out]
              have := hrep.full (l := s.data.toList.take m) (by rw [hl, List.length_take, show s.data.toList.length = s.size from by rw [Array.length_toList]; rfl]; have := HF.out; have := HRQ.out; omega)
              rw [hl, ← HRQ.out, HB.out] at this
              exact this
            case measure => simp [slen]; omega
          · rw [if_pos (by rfl)]
            refine wp_load_as 117 (.tmp 55) rfl g 8 rfl (Sha.bytesL 64 b2) (Sha.bytesA 64 b2) rfl _ RB.out Tryz.underlying117 rfl (info43L _) ?_
            refine hK _ _ ?_
            clear hK K
            simp only [Act.put, List.setIfInBounds_toArray, List.set_cons_zero, List.set_cons_succ]
            refine wpAny_ready (rs := [4]) (by kernel_rfl) (by simp) (AllReady.cons (o := ⟨some 52, .load 94 (.tmp 51), 94, _, _, none⟩) rfl (fun K hK => ?_) AllReady.nil)
            rw [if_pos (by rfl)]
            refine wp_load_as 94 (.tmp 51) rfl g 0 rfl (Sha.wordsL 8 h1) (Sha.wordsA 8 h1) rfl _ RA.out Tryz.underlying94 rfl (info39L _) ?_
            refine hK _ _ ?_
            clear hK K
            simp only [Act.put, List.setIfInBounds_toArray, List.set_cons_zero, List.set_cons_succ]
            refine wpAny_ready (rs := [9]) (by kernel_rfl) (by simp) (AllReady.cons (o := ⟨some 57, .call { callee := .value (.func 78), args := #[.tmp 52, .tmp 56], argTypes := #[94, 117] }, 94, _, _, none⟩) rfl (fun K hK => ?_) AllReady.nil)
            go_simp
            refine (mixed_any h1 b2 _ KA.out).mono ?_
            rintro e w4 ⟨rfl, hb4⟩
            refine hK _ _ ?_
            clear hK K
            refine wpAny_take (i := 10) (oi := ⟨some 58, .nilCheck (.tmp 48), 0, _, _, none⟩) (v := .pointer (some ⟨g, 0, none⟩)) rfl (by kernel_rfl) (by kernel_rfl) (by kernel_rfl) (fun _ _ _ h => h) (Or.inl ⟨by rfl, fun w => by go_simp⟩) ?_
            simp only [Act.put, List.setIfInBounds_toArray, List.set_cons_zero, List.set_cons_succ]
            refine wpAny_take (i := 11) (oi := ⟨some 59, .fieldAddr 119 (.tmp 58) 0, 0, _, _, none⟩) (v := .pointer (some ⟨g, 0, none⟩)) rfl (by kernel_rfl) (by kernel_rfl) (by kernel_rfl) (fun _ _ _ h => h) (Or.inl ⟨by rfl, fun w => by go_simp⟩) ?_
            simp only [Act.put, List.setIfInBounds_toArray, List.set_cons_zero, List.set_cons_succ]
            refine wpAny_ready (rs := [12]) (by kernel_rfl) (by simp) (AllReady.cons (o := ⟨none, .store 94 (.tmp 59) (.tmp 57), 0, _, _, none⟩) rfl (fun K hK => ?_) AllReady.nil)
            rw [if_pos (by rfl)]
            refine wp_store_mid 94 (.tmp 59) (.tmp 57) rfl g 0 (Sha.wordsA 8 (Sha.mix h1 b2)) rfl rfl (st_there hm3'.drew hb4) (info39 _) (words_all _ _) ?_
            refine hK _ _ ?_
            clear hK K
            simp only [Act.put]
            refine wpAny_done (by kernel_rfl) ?_ _
            have hm5' := hideIt (st_words hm3'.drew hb4 (Sha.mix h1 b2))
            go_wp2
            go_roundw
            case rel =>
              refine wr_next HDR.out HQ.out (by omega) hm5'.out ?_
              have hl : (M ++ dn).length = q := by rw [List.length_append, HN.out, HQ.out]
              have := hrep.full (l := s.data.toList.take m) (by rw [hl, List.length_take, show s.data.toList.length = s.size from by rw [Array.length_toList]; rfl]; have := HF.out; have := HRQ.out; omega)
              rw [hl, ← HRQ.out, HB.out] at this
              exact this
            case measure => simp [slen]; omega
        · have hb : (((q : Int) + (m : Int)) % 64 == 0) = false := by simp; omega
          have HF := hideIt hfull
          clear hfull
          go_wp2
          go_roundw
          case rel =>
            refine wr_next HDR.out HQ.out (by omega) (hm2'.len m) ?_
            have hl : (M ++ dn).length = q := by rw [List.length_append, HN.out, HQ.out]
            have := hrep.part (l := s.data.toList.take m) (by rw [hl, List.length_take, show s.data.toList.length = s.size from by rw [Array.length_toList]; rfl]; have := HF.out; have := HRQ.out; omega)
            rw [hl, ← HRQ.out, HB.out] at this
            exact this
          case measure => simp [slen]; omega
      · have hs0 : ¬ (0 : Int) < (s.size : Int) := by omega
        have hnil : s.data.toList = [] := List.eq_nil_of_length_eq_zero (by omega)
        have hdt : dn = t := by rw [hnil, List.append_nil] at hdr; exact hdr
        have HD := hideIt hdt
        clear hdt hnil hdr hsl hq HS hsz
        go_wp2
        go_end0
        refine ⟨rfl, h1, b1, ?_, ?_⟩
        · rw [HN.out, ← HD.out, HQ.out]; exact hm
        · rw [← HD.out]; exact hrep
  · have h0 : ((n : Int) == 0) = false := by simp; omega
    have HS : wr_rel g n M t w (.string ⟨t.toArray⟩) w := by
      have hM : M ≠ [] := by intro e; rw [e] at hn; simp at hn; omega
      exact ⟨[], ⟨t.toArray⟩, h, b, rfl, rfl, ⟨But.refl _ _, by rw [HR.out, hn]; rfl⟩, by rw [List.append_nil]; exact HP.out hM⟩
    clear hn hn0
    go_enter Tryz.func54, Tryz.ntmps54
    go_wp2
    go_loopw [1] (fun v w' => wr_rel g n M t w v w') (fun v _ => slen v)
    case atStart => exact HS
    case round =>
      obtain ⟨dn, s, h1, b1, hdr, rfl, hm, hrep⟩ := hrel
      have hsl : s.data.toList.length = s.size := by rw [Array.length_toList]; rfl
      obtain ⟨q, hq⟩ : ∃ q, n + dn.length = q := ⟨_, rfl⟩
      rw [hq] at hm
      have cq : wr.cell? ⟨g, 72, none⟩ = some (.int .u64 (q : Int)) := by rw [cell_of_row _ _ 72 _ _ _ hm.row, Sha.stA_at]; rfl
      have hql : (q : Int) < 1000000000 := by have e := congrArg List.length hdr; have := HN.out; rw [List.length_append] at e; omega
      have HQ := hideIt hq
      have HDR := hideIt hdr
      by_cases hlt : 0 < s.size
      · have hl0 : (0 : Int) < (s.size : Int) := by omega
        have hl1 : (s.size : Int) < 1000000000 := by have e := congrArg List.length hdr; rw [List.length_append] at e; omega
        obtain ⟨r, hr⟩ : ∃ r, r = q % 64 := ⟨_, rfl⟩
        have r1 : (q : Int) % 64 = (r : Int) := by omega
        have r0 : (q : Int).tmod 64 = (r : Int) := by rw [Int.tmod_eq_emod_of_nonneg (by omega)]; exact r1
        have r2 : (r : Int) < 64 := by omega
        have r3 : (0 : Int) ≤ (r : Int) := by omega
        have r4 : (r : Int) ≤ 64 := by omega
        have r5 : r ≤ 64 := by omega
        have r6 : ¬ 64 = r := by omega
        obtain ⟨m, hm1⟩ : ∃ m, m = min s.size (64 - r) := ⟨_, rfl⟩
        have hm2 : m ≤ s.size := by omega
        have hm3 : r + m ≤ 64 := by omega
        have hm4 : 0 < m := by omega
        have hm5 : m < s.size → r + m = 64 := by omega
        have HM1 := hideIt hm1
        have HM5 := hideIt hm5
        clear hm1 hm5
        have HRQ := hideIt hr
        clear hsl hq hdr hsz HS hr
        go_wp2
        go_region_held3 (fun w' => w'.cell? ⟨g, 72, none⟩ = some (.int .u64 (q : Int))) (first | (go_keep; done) | (exact copy_keep hm.row))
          ((refine step_copy_str (by rfl) (.tmp 27) (.tmp 28) 54 9 (by rfl) 5 Tryz.underlying54 (by kernel_rfl) g (8 + r) (64 - r) (64 - r) (by rfl) s (by rfl) (Sha.stL h1 b1 q) 119 (by exact hm.row) m (by exact HM1.out) (by rw [Sha.stL_len]; omega) ?_; rw [Sha.stL_bytes _ _ _ _ _ (by rw [List.length_take]; omega)]))
        obtain ⟨b2, hb2⟩ : ∃ b2, Sha.over b1 r (List.take m s.data.toList) = b2 := ⟨_, rfl⟩
        obtain ⟨w2, hw2⟩ : ∃ w2, wr.drew.setRow g (Sha.stL h1 (Sha.over b1 r (List.take m s.data.toList)) q).toArray = w2 := ⟨_, rfl⟩
        rw [hw2]
        have hm2' : StMem g q h1 b2 w w2 := by
          rw [← hw2, ← hb2]
          exact ⟨(hm.but.drew).setRow _, setRow_heap wr.drew _ _ _ _ _ (show wr.drew.heap[g]? = _ from hm.row)⟩
        have HB := hideIt hb2
        clear hw2 hb2 cq hm
        have cq : w2.cell? ⟨g, 72, none⟩ = some (.int .u64 (q : Int)) := by rw [cell_of_row _ _ 72 _ _ _ hm2'.row, Sha.stA_at]; rfl
        have fq : w2.frozen? ⟨g, 72, none⟩ = false := by simp [World.frozen?, hm2'.row]
        have hmI : (m : Int) ≤ (s.size : Int) := by omega
        have hm0 : (0 : Int) ≤ (m : Int) := by omega
        by_cases hfull : (q + m) % 64 = 0
        · have hb : (((q : Int) + (m : Int)) % 64 == 0) = true := by simp; omega
          have HF := hideIt hfull
          clear hfull
          go_wp2
          obtain ⟨w3, hw3⟩ : ∃ w3, w2.setCell ⟨g, 72, none⟩ (.int .u64 ((q : Int) + (m : Int))) = w3 := ⟨_, rfl⟩
          rw [hw3]
          have hm3' : StMem g (q + m) h1 b2 w w3 := by rw [← hw3]; exact hm2'.len m
          clear hw3 hm2' cq fq
          refine wp_region_any (by kernel_rfl) ?_
          change wpAny _ _ _ _ _ _ _ (World.drew _)
          refine wpAny_take (i := 0) (oi := ⟨some 48, .move (.tmp 0), 85, _, _, none⟩) (v := .pointer (some ⟨g, 0, none⟩)) rfl (by kernel_rfl) (by kernel_rfl) (by kernel_rfl) (fun _ _ _ h => h) (Or.inl ⟨by rfl, fun w => by go_simp⟩) ?_
          simp only [Act.put, List.setIfInBounds_toArray, List.set_cons_zero, List.set_cons_succ]
          refine wpAny_take (i := 1) (oi := ⟨some 49, .move (.tmp 0), 85, _, _, none⟩) (v := .pointer (some ⟨g, 0, none⟩)) rfl (by kernel_rfl) (by kernel_rfl) (by kernel_rfl) (fun _ _ _ h => h) (Or.inl ⟨by rfl, fun w => by go_simp⟩) ?_
          simp only [Act.put, List.setIfInBounds_toArray, List.set_cons_zero, List.set_cons_succ]
          refine wpAny_take (i := 2) (oi := ⟨some 50, .nilCheck (.tmp 49), 0, _, _, none⟩) (v := .pointer (some ⟨g, 0, none⟩)) rfl (by kernel_rfl) (by kernel_rfl) (by kernel_rfl) (fun _ _ _ h => h) (Or.inl ⟨by rfl, fun w => by go_simp⟩) ?_
          simp only [Act.put, List.setIfInBounds_toArray, List.set_cons_zero, List.set_cons_succ]
          refine wpAny_take (i := 3) (oi := ⟨some 51, .fieldAddr 119 (.tmp 50) 0, 0, _, _, none⟩) (v := .pointer (some ⟨g, 0, none⟩)) rfl (by kernel_rfl) (by kernel_rfl) (by kernel_rfl) (fun _ _ _ h => h) (Or.inl ⟨by rfl, fun w => by go_simp⟩) ?_
          simp only [Act.put, List.setIfInBounds_toArray, List.set_cons_zero, List.set_cons_succ]
          refine wpAny_take (i := 5) (oi := ⟨some 53, .move (.tmp 0), 85, _, _, none⟩) (v := .pointer (some ⟨g, 0, none⟩)) rfl (by kernel_rfl) (by kernel_rfl) (by kernel_rfl) (fun _ _ _ h => h) (Or.inl ⟨by rfl, fun w => by go_simp⟩) ?_
          simp only [Act.put, List.setIfInBounds_toArray, List.set_cons_zero, List.set_cons_succ]
          refine wpAny_take (i := 6) (oi := ⟨some 54, .nilCheck (.tmp 53), 0, _, _, none⟩) (v := .pointer (some ⟨g, 0, none⟩)) rfl (by kernel_rfl) (by kernel_rfl) (by kernel_rfl) (fun _ _ _ h => h) (Or.inl ⟨by rfl, fun w => by go_simp⟩) ?_
          simp only [Act.put, List.setIfInBounds_toArray, List.set_cons_zero, List.set_cons_succ]
          refine wpAny_take (i := 7) (oi := ⟨some 55, .fieldAddr 119 (.tmp 54) 1, 0, _, _, none⟩) (v := .pointer (some ⟨g, 8, none⟩)) rfl (by kernel_rfl) (by kernel_rfl) (by kernel_rfl) (fun _ _ _ h => h) (Or.inl ⟨by rfl, fun w => by go_simp⟩) ?_
          simp only [Act.put, List.setIfInBounds_toArray, List.set_cons_zero, List.set_cons_succ]
          have RA := hideIt (st_rangeW hm3'.drew)
          have RB := hideIt (st_rangeB hm3'.drew)
          have KA := hideIt (st_K hm3'.drew hg HK.out)
          refine wpAny_ready (rs := [4, 8]) (by kernel_rfl) (by simp) (AllReady.cons (o := ⟨some 52, .load 94 (.tmp 51), 94, _, _, none⟩) rfl (fun K hK => ?_) (AllReady.cons (o := ⟨some 56, .load 117 (.tmp 55), 117, _, _, none⟩) rfl (fun K hK => ?_) AllReady.nil))
          · rw [if_pos (by rfl)]
            refine wp_load_as 94 (.tmp 51) rfl g 0 rfl (Sha.wordsL 8 h1) (Sha.wordsA 8 h1) rfl _ RA.out Tryz.underlying94 rfl (info39L _) ?_
            refine hK _ _ ?_
            clear hK K
            simp only [Act.put, List.setIfInBounds_toArray, List.set_cons_zero, List.set_cons_succ]
            refine wpAny_ready (rs := [8]) (by kernel_rfl) (by simp) (AllReady.cons (o := ⟨some 56, .load 117 (.tmp 55), 117, _, _, none⟩) rfl (fun K hK => ?_) AllReady.nil)
            rw [if_pos (by rfl)]
            refine wp_load_as 117 (.tmp 55) rfl g 8 rfl (Sha.bytesL 64 b2) (Sha.bytesA 64 b2) rfl _ RB.out Tryz.underlying117 rfl (info43L _) ?_
            refine hK _ _ ?_
            clear hK K
            simp only [Act.put, List.setIfInBounds_toArray, List.set_cons_zero, List.set_cons_succ]
            refine wpAny_ready (rs := [9]) (by kernel_rfl) (by simp) (AllReady.cons (o := ⟨some 57, .call { callee := .value (.func 78), args := #[.tmp 52, .tmp 56], argTypes := #[94, 117] }, 94, _, _, none⟩) rfl (fun K hK => ?_) AllReady.nil)
            go_simp
            refine (mixed_any h1 b2 _ KA.out).mono ?_
            rintro e w4 ⟨rfl, hb4⟩
            refine hK _ _ ?_
            clear hK K
            refine wpAny_take (i := 10) (oi := ⟨some 58, .nilCheck (.tmp 48), 0, _, _, none⟩) (v := .pointer (some ⟨g, 0, none⟩)) rfl (by kernel_rfl) (by kernel_rfl) (by kernel_rfl) (fun _ _ _ h => h) (Or.inl ⟨by rfl, fun w => by go_simp⟩) ?_
            simp only [Act.put, List.setIfInBounds_toArray, List.set_cons_zero, List.set_cons_succ]
            refine wpAny_take (i := 11) (oi := ⟨some 59, .fieldAddr 119 (.tmp 58) 0, 0, _, _, none⟩) (v := .pointer (some ⟨g, 0, none⟩)) rfl (by kernel_rfl) (by kernel_rfl) (by kernel_rfl) (fun _ _ _ h => h) (Or.inl ⟨by rfl, fun w => by go_simp⟩) ?_
            simp only [Act.put, List.setIfInBounds_toArray, List.set_cons_zero, List.set_cons_succ]
            refine wpAny_ready (rs := [12]) (by kernel_rfl) (by simp) (AllReady.cons (o := ⟨none, .store 94 (.tmp 59) (.tmp 57), 0, _, _, none⟩) rfl (fun K hK => ?_) AllReady.nil)
            rw [if_pos (by rfl)]
            refine wp_store_mid 94 (.tmp 59) (.tmp 57) rfl g 0 (Sha.wordsA 8 (Sha.mix h1 b2)) rfl rfl (st_there hm3'.drew hb4) (info39 _) (words_all _ _) ?_
            refine hK _ _ ?_
            clear hK K
            simp only [Act.put]
            refine wpAny_done (by kernel_rfl) ?_ _
            have hm5' := hideIt (st_words hm3'.drew hb4 (Sha.mix h1 b2))
            go_wp2
            go_roundw
            case rel =>
              refine wr_next HDR.out HQ.out (by omega) hm5'.out ?_
              have hl : (M ++ dn).length = q := by rw [List.length_append, HN.out, HQ.out]
              have := hrep.full (l := s.data.toList.take m) (by rw [hl, List.length_take, show s.data.toList.length = s.size from by rw [Array.length_toList]; rfl]; have := HF.out; have := HRQ.out; omega)
              rw [hl, ← HRQ.out, HB.out] at this
              exact this
            case measure => simp [slen]; omega
          · rw [if_pos (by rfl)]
            refine wp_load_as 117 (.tmp 55) rfl g 8 rfl (Sha.bytesL 64 b2) (Sha.bytesA 64 b2) rfl _ RB.out Tryz.underlying117 rfl (info43L _) ?_
            refine hK _ _ ?_
            clear hK K
            simp only [Act.put, List.setIfInBounds_toArray, List.set_cons_zero, List.set_cons_succ]
            refine wpAny_ready (rs := [4]) (by kernel_rfl) (by simp) (AllReady.cons (o := ⟨some 52, .load 94 (.tmp 51), 94, _, _, none⟩) rfl (fun K hK => ?_) AllReady.nil)
            rw [if_pos (by rfl)]
            refine wp_load_as 94 (.tmp 51) rfl g 0 rfl (Sha.wordsL 8 h1) (Sha.wordsA 8 h1) rfl _ RA.out Tryz.underlying94 rfl (info39L _) ?_
            refine hK _ _ ?_
            clear hK K
            simp only [Act.put, List.setIfInBounds_toArray, List.set_cons_zero, List.set_cons_succ]
            refine wpAny_ready (rs := [9]) (by kernel_rfl) (by simp) (AllReady.cons (o := ⟨some 57, .call { callee := .value (.func 78), args := #[.tmp 52, .tmp 56], argTypes := #[94, 117] }, 94, _, _, none⟩) rfl (fun K hK => ?_) AllReady.nil)
            go_simp
            refine (mixed_any h1 b2 _ KA.out).mono ?_
            rintro e w4 ⟨rfl, hb4⟩
            refine hK _ _ ?_
            clear hK K
            refine wpAny_take (i := 10) (oi := ⟨some 58, .nilCheck (.tmp 48), 0, _, _, none⟩) (v := .pointer (some ⟨g, 0, none⟩)) rfl (by kernel_rfl) (by kernel_rfl) (by kernel_rfl) (fun _ _ _ h => h) (Or.inl ⟨by rfl, fun w => by go_simp⟩) ?_
            simp only [Act.put, List.setIfInBounds_toArray, List.set_cons_zero, List.set_cons_succ]
            refine wpAny_take (i := 11) (oi := ⟨some 59, .fieldAddr 119 (.tmp 58) 0, 0, _, _, none⟩) (v := .pointer (some ⟨g, 0, none⟩)) rfl (by kernel_rfl) (by kernel_rfl) (by kernel_rfl) (fun _ _ _ h => h) (Or.inl ⟨by rfl, fun w => by go_simp⟩) ?_
            simp only [Act.put, List.setIfInBounds_toArray, List.set_cons_zero, List.set_cons_succ]
            refine wpAny_ready (rs := [12]) (by kernel_rfl) (by simp) (AllReady.cons (o := ⟨none, .store 94 (.tmp 59) (.tmp 57), 0, _, _, none⟩) rfl (fun K hK => ?_) AllReady.nil)
            rw [if_pos (by rfl)]
            refine wp_store_mid 94 (.tmp 59) (.tmp 57) rfl g 0 (Sha.wordsA 8 (Sha.mix h1 b2)) rfl rfl (st_there hm3'.drew hb4) (info39 _) (words_all _ _) ?_
            refine hK _ _ ?_
            clear hK K
            simp only [Act.put]
            refine wpAny_done (by kernel_rfl) ?_ _
            have hm5' := hideIt (st_words hm3'.drew hb4 (Sha.mix h1 b2))
            go_wp2
            go_roundw
            case rel =>
              refine wr_next HDR.out HQ.out (by omega) hm5'.out ?_
              have hl : (M ++ dn).length = q := by rw [List.length_append, HN.out, HQ.out]
              have := hrep.full (l := s.data.toList.take m) (by rw [hl, List.length_take, show s.data.toList.length = s.size from by rw [Array.length_toList]; rfl]; have := HF.out; have := HRQ.out; omega)
              rw [hl, ← HRQ.out, HB.out] at this
              exact this
            case measure => simp [slen]; omega
        · have hb : (((q : Int) + (m : Int)) % 64 == 0) = false := by simp; omega
          have HF := hideIt hfull
          clear hfull
          go_wp2
          go_roundw
          case rel =>
            refine wr_next HDR.out HQ.out (by omega) (hm2'.len m) ?_
            have hl : (M ++ dn).length = q := by rw [List.length_append, HN.out, HQ.out]
            have := hrep.part (l := s.data.toList.take m) (by rw [hl, List.length_take, show s.data.toList.length = s.size from by rw [Array.length_toList]; rfl]; have := HF.out; have := HRQ.out; omega)
            rw [hl, ← HRQ.out, HB.out] at this
            exact this
          case measure => simp [slen]; omega
      · have hs0 : ¬ (0 : Int) < (s.size : Int) := by omega
        have hnil : s.data.toList = [] := List.eq_nil_of_length_eq_zero (by omega)
        have hdt : dn = t := by rw [hnil, List.append_nil] at hdr; exact hdr
        have HD := hideIt hdt
        clear hdt hnil hdr hsl hq HS hsz
        go_wp2
        go_end0
        refine ⟨rfl, h1, b1, ?_, ?_⟩
        · rw [HN.out, ← HD.out, HQ.out]; exact hm
        · rw [← HD.out]; exact hrep
end Go.Proofs.YtdbbgpcjclmelaaGreatDoor.Sa
namespace Go.Proofs.YtdbbgpcjclmelaaGreatDoor.Sa
open Go.RowKit
def Sha.padL (L : Nat) : List UInt8 := (Sha.pad L).data.toList
/-- The sum of bytes. -/
def Sha.sha (M : List UInt8) : ByteArray := Sha.out (Sha.hashed (Sha.fn (M ++ Sha.padL M.length)) ((M ++ Sha.padL M.length).length / 64))
theorem padL_len (L : Nat) : (Sha.padL L).length = Sha.noughts L + 9 := by simp [Sha.padL, Sha.pad, Sha.bstr]
theorem padL_small (L : Nat) : (Sha.padL L).length ≤ 72 := by rw [padL_len, Sha.noughts]; omega
theorem write_str (g : Nat) (M : List UInt8) (h : Nat → BitVec 32) (b : Nat → UInt8) (s : ByteArray) (w : World) (hK : KAt w) (hg : 0 < g)
    (hrow : w.heap[g]? = some (.cells (Sha.stA h b M.length) 119 (0, 0))) (hrep : M ≠ [] → Sha.Rep M h b) (hsz : M.length + s.data.toList.length < 1000000000) :
    Calls Tryz.prog 54 #[.pointer (some ⟨g, 0, none⟩), .string s] w fun e w' => e = .returned (.tuple #[]) ∧ ∃ h' b', StMem g (M.length + s.data.toList.length) h' b' w w' ∧ Sha.Rep (M ++ s.data.toList) h' b' := by
  have e : s = ⟨s.data.toList.toArray⟩ := by cases s; simp
  have := write_any g M h b s.data.toList w hK hg hrow hrep hsz
  rw [← e] at this
  exact this
theorem K_below {B : Nat} {w w' : World} (h : Below B w w') (hB : 0 < B) (hK : KAt w) : KAt w' := fun i hi => by rw [h.cell (p := ⟨0, i, none⟩) hB]; exact hK i hi
theorem K_pos {w : World} (hK : KAt w) : 0 < w.heap.size := block_lt_of_cell (hK 0 (by omega))
theorem copy_below {w : World} (z c : Array Value) (t : TypeId) : Below w.heap.size w ((w.alloc (.cells z t)).setRow w.heap.size c) := below_setRow ((Below.refl _ _).alloc (Nat.le_refl _) _) (Nat.le_refl _) _
theorem sum_K {w wa w1 : World} (hK : KAt w) (h0 : Below w.heap.size w wa) (h1 : Below wa.heap.size wa w1) : KAt w1 := K_below (h0.trans (h1.mono h0.size)) (K_pos hK) hK
theorem sum_row {wa w1 : World} {g : Nat} {o : Obj} (hg : wa.heap[g]? = some o) (h1 : Below wa.heap.size wa w1) : w1.heap[g]? = some o := by
  rw [h1.block g (Array.getElem?_eq_some_iff.1 hg).1, hg]
theorem wpList_load_as {P : Program} {ops : Array Oper} {rest : List Oper} {op : Oper} {a : Act} {w : World} {Q : Exit → Act → World → Prop} (hgd : op.guard = none) (ty : TypeId) (x : Operand) (ho : op.op = .load ty x)
    (b o : Nat) (hx : a.eval x = .pointer (some ⟨b, o, none⟩)) (cs : List Value) (arr : Array Value) (harr : arr = cs.toArray) (d : TypeDesc) (hc : w.rangeAt b o cs)
    (hu : P.underlying ty = some d) (hd : d.isRow = true) (hi : (P.info? ty).map (·.size) = some cs.length)
    (h : wpList P ops Q rest (a.put op.dst (.agg arr)) w) : wpList P ops Q (op :: rest) a w := by
  subst harr
  exact wpList_load_mid hgd ty x ho b o hx cs d hc hu hd hi h
theorem But.below {g : Nat} {w w' : World} (h : But g w w') (hg : g ≤ w.heap.size) : Below g w w' := ⟨h.os, h.tape, h.output, h.size, fun k hk => h.block k (by omega) (by omega)⟩
theorem zero45 (w : World) : (zeroValue 119).run Tryz.prog w = .ok (.agg (Sha.stA (fun _ => 0#32) (fun _ => 0) 0)) w := by kernel_rfl
theorem st_all (h : Nat → BitVec 32) (b : Nat → UInt8) (n : Nat) : (Sha.stA h b n).all (·.oneCell') = true := Array.all_eq_true_iff_forall_mem.2 (fun v hv => by
  have hv' : v ∈ Sha.stL h b n := by simpa [Sha.stA] using hv
  rw [Sha.stL, List.mem_append, List.mem_append] at hv'
  rcases hv' with hv' | hv' | hv'
  · exact Sha.wordsL_one _ _ v hv'
  · exact Sha.bytesL_one _ _ v hv'
  · rw [List.mem_singleton] at hv'; subst hv'; rfl)
set_option maxHeartbeats 400000 in
set_option maxRecDepth 100000 in
theorem sum_any (g : Nat) (M : List UInt8) (h : Nat → BitVec 32) (b : Nat → UInt8) (w : World) (hK : KAt w)
    (hrow : w.heap[g]? = some (.cells (Sha.stA h b M.length) 119 (0, 0))) (hrep : M ≠ [] → Sha.Rep M h b) (hsz : M.length < 100000000) :
    Calls Tryz.prog 55 #[.pointer (some ⟨g, 0, none⟩)] w fun e w' => e = .returned (.string (Sha.sha M)) ∧ Below w.heap.size w w' := by
  have HK := hideIt hK
  have HR := hideIt hrow
  have HP := hideIt hrep
  clear hK hrep
  obtain ⟨n, hn⟩ : ∃ n, M.length = n := ⟨_, rfl⟩
  have cn : w.cell? ⟨g, 72, none⟩ = some (.int .u64 (n : Int)) := by rw [cell_of_row _ _ 72 _ _ _ hrow, Sha.stA_at, hn]; rfl
  have HN := hideIt hn
  clear hrow hn
  have hz45 := zero45
  have hgl : g < w.heap.size := (Array.getElem?_eq_some_iff.1 HR.out).1
  have hp := K_pos HK.out
  have cn2 : ((w.alloc (.cells (Sha.stA (fun _ => 0#32) (fun _ => 0) 0) 119)).setRow w.heap.size (Sha.stA h b M.length)).cell? ⟨g, 72, none⟩ = some (.int .u64 (n : Int)) := by
    rw [World.cell?_of_block (w := w) (a := ⟨g, 72, none⟩) (by rw [setRow_other _ _ _ _ (by simp; omega), Below.heap_alloc _ _ _ hgl]), cn]
  have HB0 := hideIt (copy_below (w := w) (Sha.stA (fun _ => 0#32) (fun _ => 0) 0) (Sha.stA h b M.length) 119)
  have HG0 : Hid (((w.alloc (.cells (Sha.stA (fun _ => 0#32) (fun _ => 0) 0) 119)).setRow w.heap.size (Sha.stA h b M.length)).heap[w.heap.size]? = some (.cells (Sha.stA h b M.length) 119 (0, 0))) := setRow_heap _ _ _ _ _ _ (alloc_at rfl)
  go_enter Tryz.func55, Tryz.ntmps55
  go_wp2_with (first | (refine wpList_load_row rfl 119 _ rfl g rfl _ _ _ _ HR.out Tryz.underlying119 rfl (info45 _ _ _) ?_) | (refine wpList_store_row rfl 119 _ _ rfl _ _ rfl rfl _ _ (alloc_at rfl) (info45 _ _ _) (by rw [stA_size, stA_size]) (st_all _ _ _) ?_) | (go_at_call 79; refine (padding_any n (by have := HN.out; omega) _).mono ?_; rintro e w1 ⟨rfl, hb1⟩) | (go_at_call 54; refine (write_str w.heap.size M h b (Sha.pad n) _ (sum_K HK.out HB0.out hb1) hp (sum_row HG0.out hb1) HP.out (by have := padL_small n; have := HN.out; unfold Sha.padL at *; omega)).mono ?_; rintro e w2 ⟨rfl, h2, b2, hst, hrep2⟩) | (refine wpList_load_as rfl 94 _ rfl w.heap.size 0 rfl (Sha.wordsL 8 h2) (Sha.wordsA 8 h2) rfl _ (st_rangeW hst) Tryz.underlying94 rfl (info39L _) ?_) | (go_at_call 80; refine (out_any h2 _).mono ?_; rintro e w3 ⟨rfl, hb3⟩))
  go_ret
  refine ⟨?_, ?_⟩
  · have e : Sha.sha M = Sha.out h2 := by rw [Sha.sha, Sha.padL, HN.out, ← hrep2.words]
    rw [e]; rfl
  · have b1 := HB0.out.trans (hb1.mono HB0.out.size)
    have b2 : Below w.heap.size w1 w2 := hst.but.below (by have := b1.size; omega)
    exact (b1.trans b2).trans (hb3.mono (by have := b1.size; have := b2.size; omega))
theorem str_len (s : ByteArray) : s.data.toList.length = s.size := by rw [Array.length_toList]; rfl
set_option maxHeartbeats 400000 in
set_option maxRecDepth 100000 in
theorem of_any (s : ByteArray) (w : World) (hK : KAt w) (hsz : s.size < 100000000) :
    Calls Tryz.prog 30 #[.string s] w fun e w' => e = .returned (.string (Sha.sha s.data.toList)) ∧ Below w.heap.size w w' := by
  have HK := hideIt hK
  have hp := K_pos hK
  have ha : Below w.heap.size w (w.alloc (.cells (Sha.stA (fun _ => 0#32) (fun _ => 0) 0) 119)) := (Below.refl _ _).alloc (Nat.le_refl _) _
  have HA := hideIt ha
  have hsl := str_len s
  have HS := hideIt hsl
  clear hK ha hsl
  go_enter Tryz.func30, Tryz.ntmps30
  go_wp2_with (first | (go_at_call 53; refine (new_any _).mono ?_; rintro e w1 ⟨rfl, rfl⟩) | (go_at_call 54; refine (write_str w.heap.size [] (fun _ => 0#32) (fun _ => 0) s _ (K_below HA.out hp HK.out) hp (alloc_at rfl) (fun h => absurd rfl h) (by have := HS.out; simp only [List.length_nil]; omega)).mono ?_; rintro e w2 ⟨rfl, h2, b2, hst, hrep2⟩) | (go_at_call 55; refine (sum_any w.heap.size s.data.toList h2 b2 _ (st_K hst hp (K_below HA.out hp HK.out)) (by have e := hst.row; rw [List.length_nil, Nat.zero_add] at e; exact e) (fun _ => hrep2) (by have := HS.out; omega)).mono ?_; rintro e w3 ⟨rfl, hb3⟩))
  go_ret
  refine ⟨rfl, ?_⟩
  have b2 := hst.but.below (by simp)
  exact (HA.out.trans b2).trans (hb3.mono (by have := HA.out.size; have := b2.size; omega))
end Go.Proofs.YtdbbgpcjclmelaaGreatDoor.Sa
namespace Go.Proofs.YtdbbgpcjclmelaaGreatDoor.Sa
open Go.RowKit
def zs (M : List UInt8) (j : Nat) : List UInt8 := M ++ 128 :: List.replicate j 0
def ref1 (M : List UInt8) (v : Value) : Prop := ∃ (j : Nat) (s : ByteArray), v = .string s ∧ s.data.toList = zs M j ∧ j ≤ Sha.noughts M.length
def lens (L i : Nat) : List UInt8 := (List.range i).map fun k => Sha.byteAt L (7 - k)
def ref2 (M : List UInt8) (w : World) (v t : Value) (w' : World) : Prop :=
  ∃ (i : Nat) (s : ByteArray), i ≤ 8 ∧ v = .string s ∧ t = .int .i64 i ∧ s.data.toList = zs M (Sha.noughts M.length) ++ lens M.length i ∧ Below w.heap.size w w'
theorem cat_data (a b : ByteArray) : (a ++ b).data.toList = a.data.toList ++ b.data.toList := by rw [ByteArray.data_append, Array.toList_append]
theorem zs_next (M : List UInt8) (j : Nat) : zs M j ++ (#[0] : Array UInt8).toList = zs M (j + 1) := by
  have e : (#[0] : Array UInt8).toList = [0] := rfl
  rw [e, zs, zs, List.append_assoc, List.cons_append, List.replicate_succ', List.append_cancel_left_eq]
theorem run_one (u : UInt8) (W : World) : (convert 54 9 (.slice (some ⟨W.heap.size, 0, none⟩) 1 1)).run Tryz.prog (W.alloc (.cells #[.int .u8 (u.toNat : Int)] 5)) = .ok (.string ⟨#[u]⟩) (W.alloc (.cells #[.int .u8 (u.toNat : Int)] 5)) := by
  have h := run_str 1 (fun _ => u) (W.alloc (.cells #[.int .u8 (u.toNat : Int)] 5)) W.heap.size (alloc_at rfl)
  exact h
theorem lens_next (L i : Nat) : lens L (i + 1) = lens L i ++ (#[Sha.byteAt L (7 - i)] : Array UInt8).toList := by
  simp [lens, List.range_succ]
theorem padF_at (L q k : Nat) (hk : k < q + 9) : Sha.padF L (q + 9) 8 k = if k = 0 then 128 else if k ≤ q then 0 else Sha.byteAt L (q + 8 - k) := by
  simp only [Sha.padF, Sha.up]
  by_cases h0 : k ≤ q
  · have e : ∀ i, i < 8 → ¬ k = q + 9 - 1 - i := by intro i hi; omega
    simp only [e 0 (by omega), e 1 (by omega), e 2 (by omega), e 3 (by omega), e 4 (by omega), e 5 (by omega), e 6 (by omega), e 7 (by omega), h0, if_true, if_false]
  · have h1 : ¬ k = 0 := by omega
    simp only [h0, h1, if_false]
    obtain ⟨i, hi, rfl⟩ : ∃ i, i < 8 ∧ k = q + 8 - i := ⟨q + 8 - k, by omega, by omega⟩
    have e2 : q + 8 - (q + 8 - i) = i := by omega
    rw [e2]
    have e3 : ∀ j, j < 8 → (q + 8 - i = q + 9 - 1 - j ↔ i = j) := by intro j hj; omega
    simp only [e3 0 (by omega), e3 1 (by omega), e3 2 (by omega), e3 3 (by omega), e3 4 (by omega), e3 5 (by omega), e3 6 (by omega), e3 7 (by omega)]
    rcases (show i = 0 ∨ i = 1 ∨ i = 2 ∨ i = 3 ∨ i = 4 ∨ i = 5 ∨ i = 6 ∨ i = 7 by omega) with rfl | rfl | rfl | rfl | rfl | rfl | rfl | rfl <;> rfl
theorem ref_pad (M : List UInt8) : zs M (Sha.noughts M.length) ++ lens M.length 8 = M ++ Sha.padL M.length := by
  rw [zs, List.append_assoc, List.append_cancel_left_eq]
  obtain ⟨q, hq⟩ : ∃ q, Sha.noughts M.length = q := ⟨_, rfl⟩
  obtain ⟨L, hL⟩ : ∃ L, M.length = L := ⟨_, rfl⟩
  rw [Sha.padL, Sha.pad, Sha.bstr, hq, hL, List.cons_append]
  apply List.ext_getElem?
  intro k
  by_cases hk : k < q + 9
  · have e : (List.map (Sha.padF L (q + 9) 8) (List.range (q + 9)))[k]? = some (Sha.padF L (q + 9) 8 k) := by simp [hk]
    rw [List.toList_toArray, e, padF_at L q k hk]
    by_cases h0 : k = 0
    · subst h0; simp
    · obtain ⟨k', rfl⟩ : ∃ k', k = k' + 1 := ⟨k - 1, by omega⟩
      rw [List.getElem?_cons_succ, if_neg h0]
      by_cases h1 : k' < q
      · rw [List.getElem?_append_left (by simpa using h1), if_pos (by omega)]
        simp [h1]
      · rw [List.getElem?_append_right (by simp; omega), if_neg (by omega)]
        simp only [List.length_replicate, lens]
        rw [List.getElem?_map, List.getElem?_range (by omega)]
        simp only [Option.map_some]
        congr 2
        omega
  · rw [List.getElem?_eq_none (by simp [lens]; omega), List.getElem?_eq_none (by simp; omega)]
theorem padded_mod (M : List UInt8) : (M ++ Sha.padL M.length).length % 64 = 0 := by
  rw [List.length_append, padL_len, Sha.noughts]; omega
structure RefMem (N g5 g6 : Nat) (hh : Nat → BitVec 32) (w0 w : World) : Prop where
  below : Below N w0 w
  le : N ≤ g5
  lt : g5 < g6
  lt2 : g6 < w.heap.size
  h : w.heap[g5]? = some (.cells (Sha.wordsA 8 hh) 94 (0, 0))
  k : w.heap[g6]? = some (.cells (Sha.wordsA 64 Sha.salt) 95 (0, 0))
theorem ref_start {w wr w2 : World} (hb1 : Below w.heap.size w wr) (z y : Array Value) (hb2 : Below ((wr.alloc (.cells z 94)).setRow wr.heap.size (Sha.wordsA 8 Sha.init)).heap.size ((wr.alloc (.cells z 94)).setRow wr.heap.size (Sha.wordsA 8 Sha.init)) w2) :
    RefMem w.heap.size wr.heap.size w2.heap.size Sha.init w ((w2.alloc (.cells y 95)).setRow w2.heap.size (Sha.wordsA 64 Sha.salt)) := by
  have h1 := hb1.size
  have h2 := hb2.size
  have e : ((wr.alloc (.cells z 94)).setRow wr.heap.size (Sha.wordsA 8 Sha.init)).heap.size = wr.heap.size + 1 := by simp
  rw [e] at hb2 h2
  have hA : Below w.heap.size w ((wr.alloc (.cells z 94)).setRow wr.heap.size (Sha.wordsA 8 Sha.init)) := below_setRow (hb1.alloc h1 _) h1 _
  have hB : Below w.heap.size w w2 := hA.trans (hb2.mono (by omega))
  refine ⟨below_setRow (hB.alloc (by omega) _) (by omega) _, h1, by omega, by simp, ?_, setRow_heap _ _ _ _ _ _ (alloc_at rfl)⟩
  rw [setRow_other _ _ _ _ (by omega), Below.heap_alloc _ _ _ (by omega), hb2.block _ (by omega)]
  exact setRow_heap _ _ _ _ _ _ (alloc_at rfl)
def Sha.part (b : Nat → UInt8) (i : Nat) : Nat → BitVec 32 := fun k => if k < i / 4 then Sha.bePart b k 4 else if k = i / 4 then Sha.bePart b k (i % 4) else 0#32
theorem Sha.part_zero (b : Nat → UInt8) : Sha.part b 0 = fun _ => 0#32 := by
  funext k
  simp only [Sha.part]
  by_cases h : k = 0
  · subst h; simp [Sha.bePart]
  · simp [h]
theorem Sha.part_at (b : Nat → UInt8) (i : Nat) : Sha.part b i (i / 4) = Sha.bePart b (i / 4) (i % 4) := by simp [Sha.part]
theorem Sha.part_next (b : Nat → UInt8) (i : Nat) : Sha.up (Sha.part b i) (i / 4) (Sha.bePart b (i / 4) (i % 4 + 1)) = Sha.part b (i + 1) := by
  funext k
  simp only [Sha.up, Sha.part]
  by_cases h : i % 4 = 3
  · have e1 : (i + 1) / 4 = i / 4 + 1 := by omega
    have e2 : (i + 1) % 4 = 0 := by omega
    rw [e1, e2, h]
    by_cases h1 : k = i / 4
    · subst h1; simp
    · by_cases h2 : k < i / 4
      · simp [h1, h2, show k < i / 4 + 1 by omega]
      · simp only [h1, h2, if_false, show ¬ k < i / 4 + 1 by omega]
        by_cases h3 : k = i / 4 + 1
        · simp [h3, Sha.bePart]
        · simp [h3]
  · have e1 : (i + 1) / 4 = i / 4 := by omega
    have e2 : (i + 1) % 4 = i % 4 + 1 := by omega
    rw [e1, e2]
    by_cases h1 : k = i / 4
    · subst h1; simp
    · by_cases h2 : k < i / 4
      · simp [h1, h2]
      · simp [h1, h2]
theorem Sha.part_end (b : Nat → UInt8) : Sha.part b 64 = Sha.first b 16 := by
  funext k
  simp only [Sha.part, Sha.first]
  by_cases h : k < 16
  · simp [h]
  · by_cases h2 : k = 16
    · simp [h2, Sha.bePart]
    · simp [h, h2]
structure RefW (N g5 g6 g8 : Nat) (hh f : Nat → BitVec 32) (w0 w : World) : Prop where
  mem : RefMem N g5 g6 hh w0 w
  lt : g6 < g8
  row : w.heap[g8]? = some (.cells (Sha.wordsA 64 f) 95 (0, 0))
theorem ref_w {N g5 g6 : Nat} {hh : Nat → BitVec 32} {w0 w : World} (hm : RefMem N g5 g6 hh w0 w) (y : Array Value) {f : Nat → BitVec 32} : RefW N g5 g6 w.heap.size hh f w0 ((w.alloc (.cells y 95)).setRow w.heap.size (Sha.wordsA 64 f)) := by
  have := hm.le
  have := hm.lt
  have := hm.lt2
  refine ⟨⟨below_setRow (hm.below.alloc (by omega) _) (by omega) _, hm.le, hm.lt, by simp; omega, ?_, ?_⟩, hm.lt2, setRow_heap _ _ _ _ _ _ (alloc_at rfl)⟩
  · rw [setRow_other _ _ _ _ (by omega), Below.heap_alloc _ _ _ (by omega)]; exact hm.h
  · rw [setRow_other _ _ _ _ (by omega), Below.heap_alloc _ _ _ (by omega)]; exact hm.k
theorem RefW.put {N g5 g6 g8 : Nat} {hh f : Nat → BitVec 32} {w0 w : World} (hm : RefW N g5 g6 g8 hh f w0 w) (i : Nat) (v : BitVec 32) :
    RefW N g5 g6 g8 hh (Sha.up f i v) w0 (w.setCell ⟨g8, i, none⟩ (.int .u32 (v.toNat : Int))).drew := by
  have := hm.mem.le
  have := hm.mem.lt
  have := hm.lt
  refine ⟨⟨(hm.mem.below.setCell (p := ⟨g8, i, none⟩) (by simp; omega) _).drew, hm.mem.le, hm.mem.lt, by have := hm.mem.lt2; rw [heap_drew]; simpa using this, ?_, ?_⟩, hm.lt, ?_⟩
  · rw [heap_drew, row_other _ (by omega)]; exact hm.mem.h
  · rw [heap_drew, row_other _ (by omega)]; exact hm.mem.k
  · rw [heap_drew]; exact row_store v hm.row
theorem cell_apart2 {w : World} {g i o : Nat} {v u : Value} (h : w.cell? ⟨g, o, none⟩ = some u) (hne : i ≠ o) : (w.setCell ⟨g, i, none⟩ v).drew.drew.cell? ⟨g, o, none⟩ = some u := cell_apart h hne
theorem str_at (s : ByteArray) (k : Nat) (h : k < s.size) : s[k] = Sha.fn s.data.toList k := by
  have e : s.data.toList.length = s.size := str_len s
  rw [Sha.fn, List.getD, List.getElem?_eq_getElem (by omega)]
  rfl
theorem Sha.be_next2 (b : Nat → UInt8) (i j : Nat) (x : BitVec 32) (y : UInt8) (hx : x = Sha.bePart b i j) (hy : y = b (i * 4 + j)) :
    ((x.toNat : Int) * (256 : Int) + (y.toNat : Int)) % (4294967296 : Int) = ((Sha.bePart b i (j + 1)).toNat : Int) := by
  have e2 : (y.toNat : Int) = ((BitVec.ofNat 32 y.toNat).toNat : Int) := by
    rw [BitVec.toNat_ofNat]; have := y.toNat_lt; omega
  have e3 : (x <<< 8) + BitVec.ofNat 32 y.toNat = (x <<< 8) ||| BitVec.ofNat 32 y.toNat := by
    apply BitVec.add_eq_or_of_and_eq_zero
    apply BitVec.eq_of_getLsbD_eq
    intro k hk
    simp only [BitVec.getLsbD_and, BitVec.getLsbD_shiftLeft, BitVec.getLsbD_ofNat]
    by_cases h : k < 8
    · simp [h]
    · have : y.toNat.testBit k = false := Nat.testBit_lt_two_pow (Nat.lt_of_lt_of_le y.toNat_lt (Nat.pow_le_pow_right (by omega) (by omega : 8 ≤ k)))
      simp [this]
  rw [Sha.bePart, ← hx, ← hy, ← e3, BitVec.toNat_add, BitVec.toNat_shiftLeft, Nat.shiftLeft_eq, e2]
  have := (BitVec.ofNat 32 y.toNat).isLt
  omega
theorem ref_word (x16 x7 x15 x2 : BitVec 32) : IntKind.u32.wrap (IntKind.u32.wrap (IntKind.u32.wrap ((x16.toNat : Int) + (x7.toNat : Int)) + bits BinOp.xor IntKind.u32 (bits BinOp.xor IntKind.u32 ((Sha.rotr x15 7).toNat : Int) ((Sha.rotr x15 18).toNat : Int)) ((x15.toNat : Int) / (8 : Int))) + bits BinOp.xor IntKind.u32 (bits BinOp.xor IntKind.u32 ((Sha.rotr x2 17).toNat : Int) ((Sha.rotr x2 19).toNat : Int)) ((x2.toNat : Int) / (1024 : Int))) = ((x16 + x7 + Sha.ss0 x15 + Sha.ss1 x2).toNat : Int) := by
  rw [Sha.b_shr' x15 3 8, Sha.b_shr' x2 10 1024]
  simp only [Sha.b_xor, Sha.w_add]
  rfl
theorem RefW.drew {N g5 g6 g8 : Nat} {hh f : Nat → BitVec 32} {w0 w : World} (hm : RefW N g5 g6 g8 hh f w0 w) : RefW N g5 g6 g8 hh f w0 w.drew := ⟨⟨hm.mem.below.drew, hm.mem.le, hm.mem.lt, hm.mem.lt2, hm.mem.h, hm.mem.k⟩, hm.lt, hm.row⟩
structure RefV (N g5 g6 g8 g13 : Nat) (hh f v : Nat → BitVec 32) (w0 w : World) : Prop where
  mw : RefW N g5 g6 g8 hh f w0 w
  lt : g8 < g13
  row : w.heap[g13]? = some (.cells (Sha.wordsA 8 v) 94 (0, 0))
theorem ref_v {N g5 g6 g8 : Nat} {hh f : Nat → BitVec 32} {w0 w : World} (hm : RefW N g5 g6 g8 hh f w0 w) (y : Array Value) {v : Nat → BitVec 32} : RefV N g5 g6 g8 w.heap.size hh f v w0 ((w.alloc (.cells y 94)).setRow w.heap.size (Sha.wordsA 8 v)) := by
  have := hm.mem.le
  have := hm.mem.lt
  have := hm.mem.lt2
  have h8 : g8 < w.heap.size := (Array.getElem?_eq_some_iff.1 hm.row).1
  refine ⟨⟨⟨below_setRow (hm.mem.below.alloc (by omega) _) (by omega) _, hm.mem.le, hm.mem.lt, by simp; omega, ?_, ?_⟩, hm.lt, ?_⟩, h8, setRow_heap _ _ _ _ _ _ (alloc_at rfl)⟩
  · rw [setRow_other _ _ _ _ (by omega), Below.heap_alloc _ _ _ (by omega)]; exact hm.mem.h
  · rw [setRow_other _ _ _ _ (by omega), Below.heap_alloc _ _ _ (by omega)]; exact hm.mem.k
  · rw [setRow_other _ _ _ _ (by omega), Below.heap_alloc _ _ _ (by omega)]; exact hm.row
theorem ref_ch (x y z : BitVec 32) : (bits BinOp.and IntKind.u32 (x.toNat : Int) (y.toNat : Int) + bits BinOp.and IntKind.u32 ((4294967295 : Int) - (x.toNat : Int)) (z.toNat : Int)) % (4294967296 : Int) = ((Sha.ch x y z).toNat : Int) := by
  have e : (4294967295 : Int) - (x.toNat : Int) = ((~~~x).toNat : Int) := by
    rw [BitVec.toNat_not]; have := x.isLt; omega
  rw [e, Sha.b_and, Sha.b_and, Sha.b_add, Sha.ch]
  congr 2
  have e2 : (x &&& y) &&& (~~~x &&& z) = 0#32 := by
    apply BitVec.eq_of_getLsbD_eq
    intro i hi
    simp only [BitVec.getLsbD_and, BitVec.getLsbD_not]
    cases x.getLsbD i <;> simp
  rw [BitVec.add_eq_or_of_and_eq_zero _ _ e2]
  apply BitVec.eq_of_getLsbD_eq
  intro i hi
  simp only [BitVec.getLsbD_and, BitVec.getLsbD_not, BitVec.getLsbD_or, BitVec.getLsbD_xor]
  cases x.getLsbD i <;> simp
theorem ref_maj (x y z : BitVec 32) : bits BinOp.or IntKind.u32 (bits BinOp.or IntKind.u32 (bits BinOp.and IntKind.u32 (x.toNat : Int) (y.toNat : Int)) (bits BinOp.and IntKind.u32 (x.toNat : Int) (z.toNat : Int))) (bits BinOp.and IntKind.u32 (y.toNat : Int) (z.toNat : Int)) = ((Sha.maj x y z).toNat : Int) := by
  rw [Sha.b_and, Sha.b_and, Sha.b_and, Sha.b_or, Sha.b_or, Sha.maj]
  congr 2
  apply BitVec.eq_of_getLsbD_eq
  intro i hi
  simp only [BitVec.getLsbD_and, BitVec.getLsbD_or, BitVec.getLsbD_xor]
  cases x.getLsbD i <;> cases y.getLsbD i <;> cases z.getLsbD i <;> rfl
def arr8 (a b c d e f g h : BitVec 32) : Nat → BitVec 32 := fun n => if n = 0 then a else if n = 1 then b else if n = 2 then c else if n = 3 then d else if n = 4 then e else if n = 5 then f else if n = 6 then g else h
theorem lit8 (a b c d e f g h : BitVec 32) : Sha.wordsA 8 (arr8 a b c d e f g h) = #[.int .u32 (a.toNat : Int), .int .u32 (b.toNat : Int), .int .u32 (c.toNat : Int), .int .u32 (d.toNat : Int), .int .u32 (e.toNat : Int), .int .u32 (f.toNat : Int), .int .u32 (g.toNat : Int), .int .u32 (h.toNat : Int)] := rfl
def litR (d e : BitVec 32) (v : Nat → BitVec 32) : Array Value := #[.int .u32 (((d.toNat : Int) + (e.toNat : Int)) % 4294967296), .int .u32 ((v 0).toNat : Int), .int .u32 ((v 1).toNat : Int), .int .u32 ((v 2).toNat : Int), .int .u32 ((((v 3).toNat : Int) + (d.toNat : Int)) % 4294967296), .int .u32 ((v 4).toNat : Int), .int .u32 ((v 5).toNat : Int), .int .u32 ((v 6).toNat : Int)]
theorem infoR (d e : BitVec 32) (v : Nat → BitVec 32) : (Tryz.prog.info? 94).map (·.size) = some (litR d e v).size := by kernel_rfl
theorem sizeR (d e : BitVec 32) (v f : Nat → BitVec 32) : (Sha.wordsA 8 f).size = (litR d e v).size := by rw [Sha.wordsA_size]; rfl
theorem allR (d e : BitVec 32) (v : Nat → BitVec 32) : (litR d e v).all (·.oneCell') = true :=
  all_oneCell_toArray (by intro x hx; simp only [List.mem_cons, List.not_mem_nil, or_false] at hx; rcases hx with rfl | rfl | rfl | rfl | rfl | rfl | rfl | rfl <;> rfl)
theorem step_arr {k p : BitVec 32} {v : Nat → BitVec 32} {t t4 : BitVec 32} (h1 : Sha.top k p v = t) (h2 : v 3 + Sha.down k p v = t4) : Sha.wordsA 8 (Sha.step k p v) = Sha.wordsA 8 (arr8 t (v 0) (v 1) (v 2) t4 (v 4) (v 5) (v 6)) := by
  apply Sha.wordsA_congr
  intro n hn
  rw [Sha.step, h1, h2]
  rcases (show n = 0 ∨ n = 1 ∨ n = 2 ∨ n = 3 ∨ n = 4 ∨ n = 5 ∨ n = 6 ∨ n = 7 by omega) with rfl | rfl | rfl | rfl | rfl | rfl | rfl | rfl <;> rfl
theorem RefMem.alloc {N g5 g6 : Nat} {hh : Nat → BitVec 32} {w0 w : World} (hm : RefMem N g5 g6 hh w0 w) (o : Obj) : RefMem N g5 g6 hh w0 (w.alloc o) := by
  have := hm.le
  have := hm.lt
  have := hm.lt2
  refine ⟨hm.below.alloc (by omega) _, hm.le, hm.lt, by simp; omega, ?_, ?_⟩
  · rw [Below.heap_alloc _ _ _ (by omega)]; exact hm.h
  · rw [Below.heap_alloc _ _ _ (by omega)]; exact hm.k
theorem RefV.set {N g5 g6 g8 g13 : Nat} {hh f v u : Nat → BitVec 32} {x : Array Value} {w0 w : World} (hm : RefV N g5 g6 g8 g13 hh f v w0 w) (he : Sha.wordsA 8 u = x) : RefV N g5 g6 g8 g13 hh f u w0 (w.drew.drew.setRow g13 x) := by
  have := hm.mw.mem.le
  have := hm.mw.mem.lt
  have := hm.mw.lt
  have := hm.lt
  refine ⟨⟨⟨below_setRow hm.mw.mem.below.drew.drew (by omega) _, hm.mw.mem.le, hm.mw.mem.lt, by rw [setRow_size]; exact hm.mw.mem.lt2, ?_, ?_⟩, hm.mw.lt, ?_⟩, hm.lt, ?_⟩
  · rw [setRow_other _ _ _ _ (by omega)]; exact hm.mw.mem.h
  · rw [setRow_other _ _ _ _ (by omega)]; exact hm.mw.mem.k
  · rw [setRow_other _ _ _ _ (by omega)]; exact hm.mw.row
  · rw [he]; exact setRow_heap w.drew.drew _ _ _ _ _ hm.row
theorem RefV.add {N g5 g6 g8 g13 : Nat} {hh f v : Nat → BitVec 32} {w0 w : World} (hm : RefV N g5 g6 g8 g13 hh f v w0 w) (i : Nat) (x : BitVec 32) : RefV N g5 g6 g8 g13 (Sha.up hh i x) f v w0 (w.setCell ⟨g5, i, none⟩ (.int .u32 (x.toNat : Int))).drew := by
  have := hm.mw.mem.le
  have := hm.mw.mem.lt
  have := hm.mw.lt
  have := hm.lt
  refine ⟨⟨⟨(hm.mw.mem.below.setCell (p := ⟨g5, i, none⟩) (by simp; omega) _).drew, hm.mw.mem.le, hm.mw.mem.lt, by have := hm.mw.mem.lt2; rw [heap_drew]; simpa using this, ?_, ?_⟩, hm.mw.lt, ?_⟩, hm.lt, ?_⟩
  · rw [heap_drew]; exact row_store x hm.mw.mem.h
  · rw [heap_drew, row_other _ (by omega)]; exact hm.mw.mem.k
  · rw [heap_drew, row_other _ (by omega)]; exact hm.mw.row
  · rw [heap_drew, row_other _ (by omega)]; exact hm.row
set_option maxHeartbeats 4000000 in
set_option maxRecDepth 100000 in
theorem ref_any (s0 : ByteArray) (w : World) (hsz : s0.size < 100000000) :
    Calls Tryz.prog 36 #[.string s0] w fun e w' => e = .returned (.string (Sha.sha s0.data.toList)) ∧ Below w.heap.size w w' := by
  obtain ⟨M, hM⟩ : ∃ M, s0.data.toList = M := ⟨_, rfl⟩
  have HM := hideIt hM
  have hML : M.length = s0.size := by rw [← hM]; exact str_len s0
  have HML := hideIt hML
  rw [hM]
  clear hM hML
  go_enter Tryz.func36, Tryz.ntmps36
  go_wp2
  go_loop [0] (fun v => ref1 M v) (fun v => M.length + 100 - slen v)
  case atStart =>
    exact ⟨0, _, rfl, by rw [cat_data, HM.out]; rfl, Nat.zero_le _⟩
  case round =>
    obtain ⟨j, s, rfl, hs, hj⟩ := hrel
    have HS := hideIt hs
    have hsl := str_len s
    rw [hs] at hsl
    clear hs
    simp only [zs, List.length_append, List.length_cons, List.length_replicate] at hsl
    have HSL := hideIt hsl
    by_cases hlt : j < Sha.noughts M.length
    · have hl : ((s.size : Int) % 64 != 56) = true := by
        rw [bne_iff_ne]; unfold Sha.noughts at *; omega
      have hl2 : (s.size : Int) < 200000000 := by have := HML.out; unfold Sha.noughts at *; omega
      clear hsl
      go_wp2
      go_round
      case rel =>
        exact ⟨j + 1, _, rfl, by rw [cat_data, HS.out]; exact zs_next M j, by omega⟩
      case measure =>
        have e : (⟨#[0]⟩ : ByteArray).size = 1 := rfl
        simp only [slen, ByteArray.size_append, e]
        have := HSL.out; unfold Sha.noughts at *; omega
    · have hl : ((s.size : Int) % 64 != 56) = false := by
        rw [bne_eq_false_iff_eq]; unfold Sha.noughts at *; omega
      have hl2 : (s.size : Int) < 200000000 := by have := HML.out; unfold Sha.noughts at *; omega
      have hjq : j = Sha.noughts M.length := by omega
      have HJ := hideIt hjq
      clear hsl hjq hlt hj
      have hMs : (s0.size : Int) < 100000000 := by omega
      go_wp2
      go_loopw [0, 4] (fun v t w' => ref2 M w v t w') (fun _ t _ => 8 - (intOf t).toNat)
      case atStart => exact ⟨0, s, by omega, rfl, rfl, by rw [HS.out, HJ.out]; exact (List.append_nil _).symm, Below.refl _ _⟩
      case round =>
        obtain ⟨i, s1, hi, rfl, rfl, hs1, hb1⟩ := hrel
        have hs1l : (s1.size : Int) < 200000000 := by
          have e := str_len s1
          rw [hs1] at e
          simp only [zs, lens, List.length_append, List.length_cons, List.length_replicate, List.length_map, List.length_range] at e
          have := HML.out
          have : Sha.noughts M.length < 64 := by unfold Sha.noughts; omega
          omega
        by_cases hlt : i < 8
        · have hid : decide ((i : Int) < 8) = true := by simp; omega
          have HS1 := hideIt hs1
          have hi0 : (0 : Int) ≤ (i : Int) := by omega
          have hi1 : (i : Int) < 8 := by omega
          obtain ⟨u, hu⟩ : ∃ u, u = Sha.byteAt M.length (7 - i) := ⟨_, rfl⟩
          have hx : (s0.size : Int) * 8 / 2 ^ (56 - 8 * i) % 256 = (u.toNat : Int) := by rw [hu, ← Sha.byteAt_val, HML.out, show 8 * (7 - i) = 56 - 8 * i by omega]
          have hcv := run_one u
          have HU := hideIt hu
          clear hs1 hu
          go_wp2
          go_roundw
          case rel =>
            refine ⟨i + 1, _, by omega, rfl, by go_num, ?_, hb1.alloc hb1.size _⟩
            rw [cat_data, HS1.out, HU.out, List.append_assoc]
            exact congrArg (zs M (Sha.noughts M.length) ++ ·) (lens_next M.length i).symm
          case measure => simp [intOf]; omega
        · have hid : decide ((i : Int) < 8) = false := by simp; omega
          obtain rfl : i = 8 := by omega
          have hs2 : s1.data.toList = M ++ Sha.padL M.length := by rw [hs1]; exact ref_pad M
          have HS1 := hideIt hs2
          clear hs1 hs2 hl hl2 HS HSL HJ
          go_wp2_with (first | (refine wpList_build_as rfl 94 _ rfl (Sha.wordsA 8 Sha.init) (by kernel_rfl) ?_) | (refine wpList_store_row rfl 94 _ _ rfl _ _ rfl rfl _ _ (alloc_at rfl) (info39 _) (by rw [Sha.wordsA_size]; rfl) (words_all _ _) ?_) | (go_at_call 57; refine (salts_any _).mono ?_; rintro e w2 ⟨rfl, hb2⟩) | (refine wpList_store_row rfl 95 _ _ rfl _ _ rfl rfl _ _ (alloc_at rfl) (info40 _) (by rw [Sha.wordsA_size]; rfl) (words_all _ _) ?_))
          have hZ := padded_mod M
          have hsz1 : s1.size = (M ++ Sha.padL M.length).length := by rw [← HS1.out]; exact (str_len s1).symm
          obtain ⟨S, hS⟩ : ∃ S, M ++ Sha.padL M.length = S := ⟨_, rfl⟩
          rw [hS] at HS1 hZ hsz1
          obtain ⟨g5, hg5⟩ : ∃ g, wr.heap.size = g := ⟨_, rfl⟩
          obtain ⟨g6, hg6⟩ : ∃ g, w2.heap.size = g := ⟨_, rfl⟩
          have HST := hideIt (fun y => ref_start hb1 _ y hb2)
          rw [hg5, hg6] at HST ⊢
          have HSS := hideIt hS
          have HZ := hideIt hZ
          have HSZ := hideIt hsz1
          clear hS hZ hsz1 hg5 hg6 hb2 hb1
          go_loopw [7] (fun t w' => ∃ j a : Nat, a = 64 * j ∧ a ≤ S.length ∧ t = .int .i64 a ∧ RefMem w.heap.size g5 g6 (Sha.hashed (Sha.fn S) j) w w') (fun t _ => S.length - (intOf t).toNat)
          case atStart => exact ⟨0, 0, rfl, Nat.zero_le _, rfl, HST.out _⟩
          case round =>
            obtain ⟨j3, a, ha, haS, rfl, hm3⟩ := hrel
            by_cases hlt : a < S.length
            · have hlt1 : (a : Int) < (s1.size : Int) := by rw [HSZ.out]; omega
              have hab : a + 64 ≤ S.length := by have := HZ.out; omega
              obtain ⟨b, hb⟩ : ∃ b : Nat → UInt8, b = fun k => Sha.fn S (64 * j3 + k) := ⟨_, rfl⟩
              obtain ⟨hh, hhh⟩ : ∃ hh, Sha.hashed (Sha.fn S) j3 = hh := ⟨_, rfl⟩
              rw [hhh] at hm3
              have HN3 : Hid (Sha.hashed (Sha.fn S) (j3 + 1) = Sha.mix hh b) := by rw [hb, ← hhh]; exact rfl
              have HA := hideIt ha
              have HB := hideIt hb
              clear ha hb hhh HST
              go_wp2_with (first | (refine wpList_build_as rfl 95 _ rfl (Sha.wordsA 64 fun _ => 0#32) (by kernel_rfl) ?_) | (refine wpList_store_row rfl 95 _ _ rfl _ _ rfl rfl _ _ (alloc_at rfl) (info40 _) (by rw [Sha.wordsA_size]; rfl) (words_all _ _) ?_))
              obtain ⟨g8, hg8⟩ : ∃ g, wr.heap.size = g := ⟨_, rfl⟩
              have HST := hideIt (fun y => ref_w hm3 y (f := fun _ => 0#32))
              rw [hg8] at HST ⊢
              clear hg8 hm3
              go_loopw [9] (fun t w' => ∃ i : Nat, i ≤ 64 ∧ t = .int .i64 i ∧ RefW w.heap.size g5 g6 g8 hh (Sha.part b i) w w') (fun t _ => 64 - (intOf t).toNat)
              case atStart => exact ⟨0, by omega, rfl, by rw [Sha.part_zero]; exact HST.out _⟩
              case round =>
                obtain ⟨i, hi, rfl, hm⟩ := hrel
                clear HST
                by_cases hli : i < 64
                · have hid : decide ((i : Int) < 64) = true := by simp; omega
                  obtain ⟨x, hx⟩ : ∃ x, x = Sha.bePart b (i / 4) (i % 4) := ⟨_, rfl⟩
                  have c1 : wr.cell? ⟨g8, i / 4, none⟩ = some (.int .u32 (x.toNat : Int)) := by rw [cell_of_row _ _ (i / 4) _ _ _ hm.row, Sha.wordsA_at _ _ _ (by omega), Sha.part_at, hx]
                  have hf : wr.frozen? ⟨g8, i / 4, none⟩ = false := by simp [World.frozen?, hm.row]
                  have a1 : (i : Int) / 4 < 64 := by omega
                  have a3 : (0 : Int) ≤ (i : Int) := by omega
                  have a4 : (0 : Int) ≤ (i : Int) / 4 := by omega
                  have a5 : ((i : Int) / 4).toNat = i / 4 := by omega
                  have a6 : a + i < s1.size := by rw [HSZ.out]; omega
                  have a7 : (a : Int) + (i : Int) < (s1.size : Int) := by omega
                  have a8 : (0 : Int) ≤ (a : Int) + (i : Int) := by omega
                  have xl := x.isLt
                  have HX := hideIt hx
                  clear hx
                  have hy : s1[a + i] = b (i / 4 * 4 + i % 4) := by
                    rw [str_at s1 _ a6, HS1.out, HB.out, show i / 4 * 4 + i % 4 = i by omega, HA.out]
                  have HE := hideIt (hm.put (i / 4) (Sha.bePart b (i / 4) (i % 4 + 1)))
                  have HV := hideIt (Sha.be_next2 b (i / 4) (i % 4) x (s1[a + i]) HX.out hy)
                  rw [Sha.part_next] at HE
                  clear hy hm
                  go_wp2
                  go_region
                  go_wp2
                  go_roundw
                  case rel =>
                    refine ⟨i + 1, by omega, by go_num, ?_⟩
                    rw [HV.out]
                    exact HE.out
                  case measure => simp [intOf]; omega
                · have hid : decide ((i : Int) < 64) = false := by simp; omega
                  obtain rfl : i = 64 := by omega
                  rw [Sha.part_end] at hm
                  clear hi hli
                  go_wp2
                  go_loopw [10] (fun t w' => ∃ k i : Nat, k ≤ 48 ∧ i = 16 + k ∧ t = .int .i64 i ∧ RefW w.heap.size g5 g6 g8 hh (Sha.ext b k) w w') (fun t _ => 64 - (intOf t).toNat)
                  case atStart => exact ⟨0, 16, by omega, rfl, rfl, hm⟩
                  case round =>
                    obtain ⟨k, i, hk, hik, rfl, hm⟩ := hrel
                    by_cases hlk : k < 48
                    · obtain ⟨o2, ho2⟩ : ∃ o, i = o + 2 := ⟨i - 2, by omega⟩
                      obtain ⟨o7, ho7⟩ : ∃ o, i = o + 7 := ⟨i - 7, by omega⟩
                      obtain ⟨o15, ho15⟩ : ∃ o, i = o + 15 := ⟨i - 15, by omega⟩
                      have c2 := cell_of_row _ _ o2 _ _ _ hm.row
                      have c7 := cell_of_row _ _ o7 _ _ _ hm.row
                      have c15 := cell_of_row _ _ o15 _ _ _ hm.row
                      have c16 := cell_of_row _ _ k _ _ _ hm.row
                      have ci := cell_of_row _ _ i _ _ _ hm.row
                      rw [Sha.wordsA_at _ _ _ (by omega)] at c2 c7 c15 c16 ci
                      have hf : wr.frozen? ⟨g8, i, none⟩ = false := by simp [World.frozen?, hm.row]
                      obtain ⟨x2, hx2⟩ : ∃ x, x = Sha.ext b k o2 := ⟨_, rfl⟩
                      obtain ⟨x7, hx7⟩ : ∃ x, x = Sha.ext b k o7 := ⟨_, rfl⟩
                      obtain ⟨x15, hx15⟩ : ∃ x, x = Sha.ext b k o15 := ⟨_, rfl⟩
                      obtain ⟨x16, hx16⟩ : ∃ x, x = Sha.ext b k k := ⟨_, rfl⟩
                      rw [← hx2] at c2
                      rw [← hx7] at c7
                      rw [← hx15] at c15
                      rw [← hx16] at c16
                      have HV : Hid (Sha.up (Sha.ext b k) i (x16 + x7 + Sha.ss0 x15 + Sha.ss1 x2) = Sha.ext b (k + 1)) := by
                        rw [show x16 + x7 + Sha.ss0 x15 + Sha.ss1 x2 = Sha.ss1 x2 + x7 + Sha.ss0 x15 + x16 from by ac_rfl, hx2, hx7, hx15, hx16, hik, show o2 = 14 + k by omega, show o7 = 9 + k by omega, show o15 = 1 + k by omega]
                        exact rfl
                      clear hx2 hx7 hx15 hx16
                      have HI : Hid (i = 16 + k) := hik
                      have h2 : (i : Int) < 64 := by omega
                      have hid2 : decide ((i : Int) < 64) = true := by simp; omega
                      have b2 : (2 : Int) ≤ (i : Int) := by omega
                      have b7 : (7 : Int) ≤ (i : Int) := by omega
                      have b15 : (15 : Int) ≤ (i : Int) := by omega
                      have b16 : (16 : Int) ≤ (i : Int) := by omega
                      have l2 : (i : Int) - 2 < 64 := by omega
                      have l7 : (i : Int) - 7 < 64 := by omega
                      have l15 : (i : Int) - 15 < 64 := by omega
                      have l16 : (i : Int) - 16 < 64 := by omega
                      have r2 : IntKind.i64.wrap ((i : Int) - 2) = (i : Int) - 2 := wrap_sub i 2 (by omega) (by omega)
                      have r7 : IntKind.i64.wrap ((i : Int) - 7) = (i : Int) - 7 := wrap_sub i 7 (by omega) (by omega)
                      have r15 : IntKind.i64.wrap ((i : Int) - 15) = (i : Int) - 15 := wrap_sub i 15 (by omega) (by omega)
                      have r16 : IntKind.i64.wrap ((i : Int) - 16) = (i : Int) - 16 := wrap_sub i 16 (by omega) (by omega)
                      have e2 : ((i : Int) - 2).toNat = o2 := by omega
                      have e7 : ((i : Int) - 7).toNat = o7 := by omega
                      have e15 : ((i : Int) - 15).toNat = o15 := by omega
                      have e16 : ((i : Int) - 16).toNat = k := by omega
                      have n2 : i ≠ o2 := by omega
                      have n7 : i ≠ o7 := by omega
                      have n15 : i ≠ o15 := by omega
                      have n16 : i ≠ k := by omega
                      have x2l := x2.isLt
                      have x15l := x15.isLt
                      clear hik hlk hk ho2 ho7 ho15
                      go_wp2
                      go_region_held3 (fun w' => w'.cell? ⟨g8, o2, none⟩ = some (.int .u32 (x2.toNat : Int)) ∧ w'.cell? ⟨g8, o15, none⟩ = some (.int .u32 (x15.toNat : Int))) (go_keep) (fail)
                      go_wp2
                      go_region_held3 (fun w' => w'.cell? ⟨g8, o7, none⟩ = some (.int .u32 (x7.toNat : Int)) ∧ w'.cell? ⟨g8, k, none⟩ = some (.int .u32 (x16.toNat : Int))) (first | (go_keep; done) | (exact ⟨cell_apart2 c7 n7, cell_apart2 c16 n16⟩))
                        (first | (go_at_call 58; refine (turn_any _ _ _ (by decide) (by decide)).mono ?_; rintro e w' ⟨rfl, rfl⟩))
                      rw [ref_word]
                      obtain ⟨xv, hxv⟩ : ∃ xv, x16 + x7 + Sha.ss0 x15 + Sha.ss1 x2 = xv := ⟨_, rfl⟩
                      rw [hxv] at HV ⊢
                      clear hxv
                      go_wp2
                      go_roundw
                      case rel =>
                        repeat apply Exists.intro
                        refine ⟨?_, rfl⟩
                        refine ⟨k + 1, i + 1, by omega, by have := HI.out; omega, by go_num, ?_⟩
                        have hs := (hm.put i xv).drew
                        rw [HV.out] at hs
                        exact hs
                      case measure => simp [intOf]; omega
                    · obtain rfl : k = 48 := by omega
                      have hid2 : decide ((i : Int) < 64) = false := by simp; omega
                      have hpl : RefW w.heap.size g5 g6 g8 hh (Sha.plan b) w wr := hm
                      have HP := hideIt hpl.mem.h
                      have HST := hideIt (fun y => ref_v hpl y (v := hh))
                      clear hm hpl hik hk hlk
                      go_wp2_with (first | (refine wpList_load_row rfl 94 _ rfl _ rfl _ _ _ _ HP.out Tryz.underlying94 rfl (info39 _) ?_) | (refine wpList_store_row rfl 94 _ _ rfl _ _ rfl rfl _ _ (alloc_at rfl) (info39 _) (by rw [Sha.wordsA_size]; rfl) (words_all _ _) ?_))
                      obtain ⟨g13, hg13⟩ : ∃ g, wr.heap.size = g := ⟨_, rfl⟩
                      rw [hg13] at HST ⊢
                      clear hg13 HP
                      go_loopw [14] (fun t w' => ∃ k : Nat, k ≤ 64 ∧ t = .int .i64 k ∧ RefV w.heap.size g5 g6 g8 g13 hh (Sha.plan b) (Sha.rounds (Sha.plan b) hh k) w w') (fun t _ => 64 - (intOf t).toNat)
                      case atStart => exact ⟨0, by omega, rfl, HST.out _⟩
                      case round =>
                        obtain ⟨k, hk, rfl, hm⟩ := hrel
                        clear HST
                        by_cases hlt : k < 64
                        · have hkd : decide ((k : Int) < 64) = true := by simp; omega
                          have hlt' : (k : Int) < 64 := by omega
                          have hk0 : (0 : Int) ≤ (k : Int) := by omega
                          obtain ⟨v, hv⟩ : ∃ v, v = Sha.rounds (Sha.plan b) hh k := ⟨_, rfl⟩
                          obtain ⟨p, hp⟩ : ∃ p, p = Sha.plan b k := ⟨_, rfl⟩
                          obtain ⟨st, hs⟩ : ∃ s, s = Sha.salt k := ⟨_, rfl⟩
                          have HN : Hid (Sha.rounds (Sha.plan b) hh (k + 1) = Sha.step st p v) := by rw [hs, hp, hv]; exact rfl
                          have cK : wr.cell? ⟨g6, k, none⟩ = some (.int .u32 (st.toNat : Int)) := by rw [cell_of_row _ _ k _ _ _ hm.mw.mem.k, Sha.wordsA_at _ _ _ hlt, hs]
                          have cP : wr.cell? ⟨g8, k, none⟩ = some (.int .u32 (p.toNat : Int)) := by rw [cell_of_row _ _ k _ _ _ hm.mw.row, Sha.wordsA_at _ _ _ hlt, hp]
                          rw [← hv] at hm
                          have cv : ∀ j, j < 8 → wr.cell? ⟨g13, j, none⟩ = some (.int .u32 ((v j).toNat : Int)) := by
                            intro j hj; rw [cell_of_row _ _ j _ _ _ hm.row, Sha.wordsA_at _ _ _ hj]
                          have c0 := cv 0 (by omega)
                          have c1 := cv 1 (by omega)
                          have c2 := cv 2 (by omega)
                          have c3 := cv 3 (by omega)
                          have c4 := cv 4 (by omega)
                          have c5 := cv 5 (by omega)
                          have c6 := cv 6 (by omega)
                          have c7 := cv 7 (by omega)
                          have v4l := (v 4).isLt
                          clear cv hv hp hs
                          go_wp2
                          rw [ref_ch, ref_maj]
                          obtain ⟨cc, hcc⟩ : ∃ cc, Sha.ch (v 4) (v 5) (v 6) = cc := ⟨_, rfl⟩
                          obtain ⟨mm, hmm⟩ : ∃ mm, Sha.maj (v 0) (v 1) (v 2) = mm := ⟨_, rfl⟩
                          rw [hcc, hmm]
                          have HCC := hideIt hcc
                          have HMM := hideIt hmm
                          clear hcc hmm
                          go_region_held3 (fun w' => w'.cell? ⟨g13, 7, none⟩ = some (.int .u32 ((v 7).toNat : Int)) ∧ w'.cell? ⟨g13, 4, none⟩ = some (.int .u32 ((v 4).toNat : Int)) ∧ w'.cell? ⟨g6, k, none⟩ = some (.int .u32 (st.toNat : Int)) ∧ w'.cell? ⟨g8, k, none⟩ = some (.int .u32 (p.toNat : Int))) (go_keep)
                            (first | (go_at_call 58; refine (turn_any _ _ _ (by decide) (by decide)).mono ?_; rintro e w' ⟨rfl, rfl⟩))
                          simp only [Sha.b_xor, Sha.w_add]
                          obtain ⟨d, hd⟩ : ∃ d, v 7 + (Sha.rotr (v 4) 6 ^^^ Sha.rotr (v 4) 11 ^^^ Sha.rotr (v 4) 25) + cc + st + p = d := ⟨_, rfl⟩
                          rw [hd]
                          have HD : Hid (Sha.down st p v = d) := by rw [← hd, ← HCC.out]; exact rfl
                          clear hd
                          go_wp2
                          go_region_held3 (fun w' => w'.cell? ⟨g13, 0, none⟩ = some (.int .u32 ((v 0).toNat : Int))) (go_keep)
                            (first | (go_at_call 58; refine (turn_any _ _ _ (by decide) (by decide)).mono ?_; rintro e w' ⟨rfl, rfl⟩))
                          simp only [Sha.b_xor, Sha.w_add]
                          obtain ⟨ee, he⟩ : ∃ e, (Sha.rotr (v 0) 2 ^^^ Sha.rotr (v 0) 13 ^^^ Sha.rotr (v 0) 22) + mm = e := ⟨_, rfl⟩
                          rw [he]
                          have HT : Hid (Sha.wordsA 8 (Sha.step st p v) = litR d ee v) := by
                            rw [litR, Sha.b_add, Sha.b_add, ← lit8]
                            refine step_arr ?_ ?_
                            · rw [Sha.top, HD.out, ← he, ← HMM.out, BitVec.add_assoc]; exact rfl
                            · rw [HD.out]
                          have HR := hideIt hm.row
                          clear he
                          go_wp2_with (first | (refine wpList_build_as rfl 94 _ rfl (litR d ee v) (by kernel_rfl) ?_) | (refine wpList_store_row rfl 94 _ _ rfl _ (litR d ee v) rfl rfl _ _ HR.out (infoR d ee v) (sizeR d ee v v) (allR d ee v) ?_))
                          go_roundw
                          case rel =>
                            refine ⟨k + 1, by omega, by go_num, ?_⟩
                            rw [HN.out]
                            exact hm.set HT.out
                          case measure => simp [intOf]; omega
                        · obtain rfl : k = 64 := by omega
                          have hkd : decide ((64 : Int) < 64) = false := by decide
                          obtain ⟨v, hv⟩ : ∃ v, v = Sha.rounds (Sha.plan b) hh 64 := ⟨_, rfl⟩
                          have HV : Hid (Sha.mix hh b = Sha.added hh v 8) := by rw [hv]; exact rfl
                          rw [← hv] at hm
                          clear hv hlt hk
                          go_wp2
                          go_loopw [19] (fun t w' => ∃ i : Nat, i ≤ 8 ∧ t = .int .i64 i ∧ RefV w.heap.size g5 g6 g8 g13 (Sha.added hh v i) (Sha.plan b) v w w') (fun t _ => 8 - (intOf t).toNat)
                          case atStart =>
                            refine ⟨0, by omega, rfl, ?_⟩
                            have e : Sha.added hh v 0 = hh := by funext n; simp [Sha.added]
                            rw [e]; exact hm
                          case round =>
                            obtain ⟨i, hi, rfl, hm⟩ := hrel
                            by_cases hlt : i < 8
                            · have hid : decide ((i : Int) < 8) = true := by simp; omega
                              have hi1 : (i : Int) < 8 := by omega
                              have hi0 : (0 : Int) ≤ (i : Int) := by omega
                              have c1 : wr.cell? ⟨g5, i, none⟩ = some (.int .u32 ((hh i).toNat : Int)) := by rw [cell_of_row _ _ i _ _ _ hm.mw.mem.h, Sha.wordsA_at _ _ _ hlt, Sha.added_at]
                              have c2 : wr.cell? ⟨g13, i, none⟩ = some (.int .u32 ((v i).toNat : Int)) := by rw [cell_of_row _ _ i _ _ _ hm.row, Sha.wordsA_at _ _ _ hlt]
                              have hf : wr.frozen? ⟨g5, i, none⟩ = false := by simp [World.frozen?, hm.mw.mem.h]
                              obtain ⟨x, hx⟩ : ∃ x, hh i = x := ⟨_, rfl⟩
                              obtain ⟨y, hy⟩ : ∃ y, v i = y := ⟨_, rfl⟩
                              have HE := hideIt (hm.add i (hh i + v i))
                              rw [Sha.added_next] at HE
                              rw [hx, hy] at HE
                              rw [hx] at c1
                              rw [hy] at c2
                              clear hx hy hm
                              go_wp2
                              go_region
                              go_wp2
                              go_roundw
                              case rel =>
                                refine ⟨i + 1, by omega, by go_num, ?_⟩
                                rw [Sha.b_add]
                                exact HE.out
                              case measure => simp [intOf]; omega
                            · have hid : decide ((i : Int) < 8) = false := by simp; omega
                              obtain rfl : i = 8 := by omega
                              have hfin : RefMem w.heap.size g5 g6 (Sha.hashed (Sha.fn S) (j3 + 1)) w wr := by rw [HN3.out, HV.out]; exact hm.mw.mem
                              have HF := hideIt hfin
                              clear hm hfin
                              go_wp2
                              go_roundw
                              case rel =>
                                first | exact ⟨j3 + 1, a + 64, by have := HA.out; omega, hab, by go_num, HF.out⟩ | (repeat apply Exists.intro; exact ⟨⟨j3 + 1, a + 64, by have := HA.out; omega, hab, by go_num, HF.out⟩, rfl⟩)
                              case measure => simp [intOf]; omega
            · have hlt1 : ¬ (a : Int) < (s1.size : Int) := by rw [HSZ.out]; omega
              have hfin : Sha.hashed (Sha.fn S) j3 = Sha.hashed (Sha.fn (M ++ Sha.padL M.length)) ((M ++ Sha.padL M.length).length / 64) := by
                rw [HSS.out, show j3 = S.length / 64 by omega]
              obtain ⟨hh, hhh⟩ : ∃ hh, Sha.hashed (Sha.fn S) j3 = hh := ⟨_, rfl⟩
              have HO : Hid (Sha.sha M = Sha.out hh) := by rw [Sha.sha, ← hfin, hhh]; exact rfl
              rw [hhh] at hm3
              clear hfin hhh ha haS hlt
              go_wp2
              go_loopw [20, 21] (fun v t w' => ∃ (i : Nat) (o : ByteArray), i ≤ 32 ∧ v = .string o ∧ t = .int .i64 i ∧ o.data.toList = (List.range i).map (Sha.outByte hh) ∧ RefMem w.heap.size g5 g6 hh w w') (fun _ t _ => 32 - (intOf t).toNat)
              case atStart => exact ⟨0, _, by omega, rfl, rfl, rfl, hm3⟩
              case round =>
                obtain ⟨i, o, hi, rfl, rfl, ho, hm⟩ := hrel
                have hol : (o.size : Int) < 1000 := by have e := str_len o; rw [ho] at e; simp only [List.length_map, List.length_range] at e; omega
                by_cases hlt : i < 32
                · have hid : decide ((i : Int) < 32) = true := by simp; omega
                  obtain ⟨x, hx⟩ : ∃ x, x = hh (i / 4) := ⟨_, rfl⟩
                  have c1 : wr.cell? ⟨g5, i / 4, none⟩ = some (.int .u32 (x.toNat : Int)) := by rw [cell_of_row _ _ (i / 4) _ _ _ hm.h, Sha.wordsA_at _ _ _ (by omega), hx]
                  have a1 : (i : Int) / 4 < 8 := by omega
                  have a2 : (i : Int) < 32 := by omega
                  have a3 : (0 : Int) ≤ (i : Int) := by omega
                  have a4 : (0 : Int) ≤ (i : Int) / 4 := by omega
                  have a5 : ((i : Int) / 4).toNat = i / 4 := by omega
                  have xl := x.isLt
                  have HOD := hideIt ho
                  have HX := hideIt hx
                  obtain ⟨u, hu⟩ : ∃ u, u = Sha.outByte hh i := ⟨_, rfl⟩
                  have hxv : (x.toNat : Int) / 2 ^ (24 - i % 4 * 8) % 256 = (u.toNat : Int) := by rw [Sha.out_val, hu, hx, show 24 - i % 4 * 8 = 8 * (3 - i % 4) by omega]; exact rfl
                  have hcv := run_one u
                  have HU := hideIt hu
                  clear hx ho hu
                  go_wp2
                  go_roundw
                  case rel =>
                    refine ⟨i + 1, _, by omega, rfl, by go_num, ?_, hm.alloc _⟩
                    rw [cat_data, HOD.out, HU.out, List.range_succ, List.map_append]
                    exact rfl
                  case measure => simp [intOf]; omega
                · have hid : decide ((i : Int) < 32) = false := by simp; omega
                  obtain rfl : i = 32 := by omega
                  have hfin : o = Sha.out hh := by cases o; rename_i od; simp only [Sha.out, Sha.bstr] at ho ⊢; rw [← ho]
                  have HFI := hideIt hfin
                  clear hfin ho
                  go_wp2
                  go_ret
                  exact ⟨by rw [HO.out, ← HFI.out]; rfl, hm.below⟩
end Go.Proofs.YtdbbgpcjclmelaaGreatDoor.Sa
namespace Go.Proofs.YtdbbgpcjclmelaaGreatDoor.Sa
namespace Sha
def at8 (l : List (BitVec 32)) (n : Nat) : BitVec 32 := l.getD n 0#32
def stepOk (k p : BitVec 32) (l m : List (BitVec 32)) : Bool := (List.range 8).all fun n => decide (step k p (at8 l) n = at8 m n)
theorem step_congr {k p : BitVec 32} {u v : Nat → BitVec 32} (h : ∀ n, n < 8 → u n = v n) : ∀ n, n < 8 → step k p u n = step k p v n := by
  intro n hn
  have h0 := h 0 (by omega)
  have h1 := h 1 (by omega)
  have h2 := h 2 (by omega)
  have h3 := h 3 (by omega)
  have h4 := h 4 (by omega)
  have h5 := h 5 (by omega)
  have h6 := h 6 (by omega)
  have h7 := h 7 (by omega)
  have e1 : down k p u = down k p v := by simp only [down, h7, h4, h5, h6]
  have e2 : top k p u = top k p v := by simp only [top, e1, h0, h1, h2]
  simp only [step, up, e1, e2, h3, shifted]
  by_cases hz : n = 0
  · simp [hz]
  · simp only [hz, if_false]
    rw [h (n - 1) (by omega)]
theorem rounds_of (p : Nat → BitVec 32) (h : Nat → BitVec 32) (l : List (List (BitVec 32))) (h0 : ∀ n, n < 8 → h n = at8 (l.getD 0 []) n)
    (hs : ∀ k, k < 64 → stepOk (salt k) (p k) (l.getD k []) (l.getD (k + 1) []) = true) : ∀ k, k ≤ 64 → ∀ n, n < 8 → rounds p h k n = at8 (l.getD k []) n
  | 0, _, n, hn => h0 n hn
  | k + 1, hk, n, hn => by
    have ih := rounds_of p h l h0 hs k (by omega)
    have := hs k (by omega)
    rw [stepOk, List.all_eq_true] at this
    have t := of_decide_eq_true (this n (List.mem_range.2 hn))
    rw [rounds, step_congr ih n hn, t]
theorem plan_of (b : Nat → UInt8) (l : List (BitVec 32)) (h0 : ∀ n, n < 16 → bePart b n 4 = at8 l n)
    (hs : ∀ k, k < 48 → at8 l (16 + k) = ss1 (at8 l (14 + k)) + at8 l (9 + k) + ss0 (at8 l (1 + k)) + at8 l k) : ∀ k, k ≤ 48 → ∀ n, n < 16 + k → ext b k n = at8 l n
  | 0, _, n, hn => by
    have : n < 16 := by omega
    simp only [ext, first, this, if_true]
    exact h0 n this
  | k + 1, hk, n, hn => by
    have ih := plan_of b l h0 hs k (by omega)
    simp only [ext, up]
    by_cases h : n = 16 + k
    · subst h
      rw [if_pos rfl, ih _ (by omega), ih _ (by omega), ih _ (by omega), ih _ (by omega), hs k (by omega)]
    · rw [if_neg h]; exact ih n (by omega)
def cxPlan : List (BitVec 32) := [0x626c6f62#32, 0x20333200#32, 0x30313233#32, 0x34353637#32, 0x38396162#32, 0x63646566#32, 0x30313233#32, 0x34353637#32, 0x38394142#32, 0x43444546#32, 0x80000000#32, 0x00000000#32, 0x00000000#32, 0x00000000#32, 0x00000000#32, 0x00000140#32, 0x6e76bcd0#32, 0xcda5ba2e#32, 0xdf7ddb34#32, 0x39c6dd1f#32, 0x68f86948#32, 0x4570f800#32, 0x8f2b3c93#32, 0xd8e53dd3#32, 0x95970922#32, 0x6d27ee9b#32, 0x1f575ada#32, 0x737dfc14#32, 0x8ba29197#32, 0xd0bfa541#32, 0x741119fe#32, 0xbdfa2981#32, 0xb620eb8f#32, 0x437923df#32, 0x49a4159e#32, 0x028aee16#32, 0xf84b8318#32, 0xde2b47ce#32, 0xf2d073d8#32, 0xf000d1b6#32, 0xd1946976#32, 0x8b006ca8#32, 0x35107977#32, 0x41b40a20#32, 0x0e4d1166#32, 0xfbe9fb0f#32, 0x2d531f7c#32, 0x85b33d1c#32, 0x2b9a26dd#32, 0xa256b4e7#32, 0x7ae9beb1#32, 0x6bdf89bf#32, 0x34503069#32, 0xf4baa8e8#32, 0xde460137#32, 0x0abb548c#32, 0x8fd1d354#32, 0xbd5538d0#32, 0xbf111ed9#32, 0x3aee1274#32, 0x2de8f8e8#32, 0xdfd9ec79#32, 0x826afe34#32, 0x179c6d4c#32]
def cxStates : List (List (BitVec 32)) := [
  [0x6a09e667#32, 0xbb67ae85#32, 0x3c6ef372#32, 0xa54ff53a#32, 0x510e527f#32, 0x9b05688c#32, 0x1f83d9ab#32, 0x5be0cd19#32],
  [0x5e74f7af#32, 0x6a09e667#32, 0xbb67ae85#32, 0x3c6ef372#32, 0xfb345204#32, 0x510e527f#32, 0x9b05688c#32, 0x1f83d9ab#32],
  [0xfeedda63#32, 0x5e74f7af#32, 0x6a09e667#32, 0xbb67ae85#32, 0x07bd73f9#32, 0xfb345204#32, 0x510e527f#32, 0x9b05688c#32],
  [0x33f0ebea#32, 0xfeedda63#32, 0x5e74f7af#32, 0x6a09e667#32, 0xd51d95fb#32, 0x07bd73f9#32, 0xfb345204#32, 0x510e527f#32],
  [0x0c11ea04#32, 0x33f0ebea#32, 0xfeedda63#32, 0x5e74f7af#32, 0xe724c6ce#32, 0xd51d95fb#32, 0x07bd73f9#32, 0xfb345204#32],
  [0xf603314c#32, 0x0c11ea04#32, 0x33f0ebea#32, 0xfeedda63#32, 0x00fa345b#32, 0xe724c6ce#32, 0xd51d95fb#32, 0x07bd73f9#32],
  [0x25e6862f#32, 0xf603314c#32, 0x0c11ea04#32, 0x33f0ebea#32, 0x33a025b4#32, 0x00fa345b#32, 0xe724c6ce#32, 0xd51d95fb#32],
  [0x98a933eb#32, 0x25e6862f#32, 0xf603314c#32, 0x0c11ea04#32, 0x467e4ba1#32, 0x33a025b4#32, 0x00fa345b#32, 0xe724c6ce#32],
  [0x2987d358#32, 0x98a933eb#32, 0x25e6862f#32, 0xf603314c#32, 0xa33d621c#32, 0x467e4ba1#32, 0x33a025b4#32, 0x00fa345b#32],
  [0x8d367003#32, 0x2987d358#32, 0x98a933eb#32, 0x25e6862f#32, 0xc9a43596#32, 0xa33d621c#32, 0x467e4ba1#32, 0x33a025b4#32],
  [0x91050e36#32, 0x8d367003#32, 0x2987d358#32, 0x98a933eb#32, 0x72b22593#32, 0xc9a43596#32, 0xa33d621c#32, 0x467e4ba1#32],
  [0x9de7f45b#32, 0x91050e36#32, 0x8d367003#32, 0x2987d358#32, 0xebbcc453#32, 0x72b22593#32, 0xc9a43596#32, 0xa33d621c#32],
  [0xee47b363#32, 0x9de7f45b#32, 0x91050e36#32, 0x8d367003#32, 0xa033964a#32, 0xebbcc453#32, 0x72b22593#32, 0xc9a43596#32],
  [0x44bdee27#32, 0xee47b363#32, 0x9de7f45b#32, 0x91050e36#32, 0xb669965b#32, 0xa033964a#32, 0xebbcc453#32, 0x72b22593#32],
  [0x9340ae62#32, 0x44bdee27#32, 0xee47b363#32, 0x9de7f45b#32, 0xffb002c1#32, 0xb669965b#32, 0xa033964a#32, 0xebbcc453#32],
  [0x613fa26c#32, 0x9340ae62#32, 0x44bdee27#32, 0xee47b363#32, 0x6364ac94#32, 0xffb002c1#32, 0xb669965b#32, 0xa033964a#32],
  [0x01334f27#32, 0x613fa26c#32, 0x9340ae62#32, 0x44bdee27#32, 0xb8980342#32, 0x6364ac94#32, 0xffb002c1#32, 0xb669965b#32],
  [0x14cc847b#32, 0x01334f27#32, 0x613fa26c#32, 0x9340ae62#32, 0xe40e7de5#32, 0xb8980342#32, 0x6364ac94#32, 0xffb002c1#32],
  [0x62c8c227#32, 0x14cc847b#32, 0x01334f27#32, 0x613fa26c#32, 0x1fcf7ef1#32, 0xe40e7de5#32, 0xb8980342#32, 0x6364ac94#32],
  [0xdff0e177#32, 0x62c8c227#32, 0x14cc847b#32, 0x01334f27#32, 0x55e60278#32, 0x1fcf7ef1#32, 0xe40e7de5#32, 0xb8980342#32],
  [0xc025f421#32, 0xdff0e177#32, 0x62c8c227#32, 0x14cc847b#32, 0x2ac96a2c#32, 0x55e60278#32, 0x1fcf7ef1#32, 0xe40e7de5#32],
  [0x2c0a7073#32, 0xc025f421#32, 0xdff0e177#32, 0x62c8c227#32, 0x371e19a0#32, 0x2ac96a2c#32, 0x55e60278#32, 0x1fcf7ef1#32],
  [0x7bee7343#32, 0x2c0a7073#32, 0xc025f421#32, 0xdff0e177#32, 0xb13c13f8#32, 0x371e19a0#32, 0x2ac96a2c#32, 0x55e60278#32],
  [0xe6d64ccf#32, 0x7bee7343#32, 0x2c0a7073#32, 0xc025f421#32, 0x616b6f97#32, 0xb13c13f8#32, 0x371e19a0#32, 0x2ac96a2c#32],
  [0x028a9a49#32, 0xe6d64ccf#32, 0x7bee7343#32, 0x2c0a7073#32, 0x8ce8840d#32, 0x616b6f97#32, 0xb13c13f8#32, 0x371e19a0#32],
  [0x7581b6e6#32, 0x028a9a49#32, 0xe6d64ccf#32, 0x7bee7343#32, 0x863a3642#32, 0x8ce8840d#32, 0x616b6f97#32, 0xb13c13f8#32],
  [0x1e5d1ca2#32, 0x7581b6e6#32, 0x028a9a49#32, 0xe6d64ccf#32, 0x074098b4#32, 0x863a3642#32, 0x8ce8840d#32, 0x616b6f97#32],
  [0x53be934f#32, 0x1e5d1ca2#32, 0x7581b6e6#32, 0x028a9a49#32, 0x0d160383#32, 0x074098b4#32, 0x863a3642#32, 0x8ce8840d#32],
  [0x4ab20b3f#32, 0x53be934f#32, 0x1e5d1ca2#32, 0x7581b6e6#32, 0x40c70a39#32, 0x0d160383#32, 0x074098b4#32, 0x863a3642#32],
  [0x3fa9c45e#32, 0x4ab20b3f#32, 0x53be934f#32, 0x1e5d1ca2#32, 0x16f335a0#32, 0x40c70a39#32, 0x0d160383#32, 0x074098b4#32],
  [0x6af80c20#32, 0x3fa9c45e#32, 0x4ab20b3f#32, 0x53be934f#32, 0x238fb0bc#32, 0x16f335a0#32, 0x40c70a39#32, 0x0d160383#32],
  [0xf1ccae39#32, 0x6af80c20#32, 0x3fa9c45e#32, 0x4ab20b3f#32, 0x3f455fe7#32, 0x238fb0bc#32, 0x16f335a0#32, 0x40c70a39#32],
  [0xb4436a74#32, 0xf1ccae39#32, 0x6af80c20#32, 0x3fa9c45e#32, 0x4408a74f#32, 0x3f455fe7#32, 0x238fb0bc#32, 0x16f335a0#32],
  [0x50e2205d#32, 0xb4436a74#32, 0xf1ccae39#32, 0x6af80c20#32, 0x2ca70c34#32, 0x4408a74f#32, 0x3f455fe7#32, 0x238fb0bc#32],
  [0x812b0523#32, 0x50e2205d#32, 0xb4436a74#32, 0xf1ccae39#32, 0x1d0d6c81#32, 0x2ca70c34#32, 0x4408a74f#32, 0x3f455fe7#32],
  [0x2aa2ade9#32, 0x812b0523#32, 0x50e2205d#32, 0xb4436a74#32, 0x26c9f599#32, 0x1d0d6c81#32, 0x2ca70c34#32, 0x4408a74f#32],
  [0x0938c1c6#32, 0x2aa2ade9#32, 0x812b0523#32, 0x50e2205d#32, 0x0d83ac0c#32, 0x26c9f599#32, 0x1d0d6c81#32, 0x2ca70c34#32],
  [0x87908762#32, 0x0938c1c6#32, 0x2aa2ade9#32, 0x812b0523#32, 0x5fcec049#32, 0x0d83ac0c#32, 0x26c9f599#32, 0x1d0d6c81#32],
  [0x4ef9783c#32, 0x87908762#32, 0x0938c1c6#32, 0x2aa2ade9#32, 0xeb86603b#32, 0x5fcec049#32, 0x0d83ac0c#32, 0x26c9f599#32],
  [0x5e3e0dca#32, 0x4ef9783c#32, 0x87908762#32, 0x0938c1c6#32, 0x416b214e#32, 0xeb86603b#32, 0x5fcec049#32, 0x0d83ac0c#32],
  [0xe57d1a77#32, 0x5e3e0dca#32, 0x4ef9783c#32, 0x87908762#32, 0x9e1372d9#32, 0x416b214e#32, 0xeb86603b#32, 0x5fcec049#32],
  [0x97a3e192#32, 0xe57d1a77#32, 0x5e3e0dca#32, 0x4ef9783c#32, 0xf22d9d96#32, 0x9e1372d9#32, 0x416b214e#32, 0xeb86603b#32],
  [0xaff5b5b9#32, 0x97a3e192#32, 0xe57d1a77#32, 0x5e3e0dca#32, 0x00b614fe#32, 0xf22d9d96#32, 0x9e1372d9#32, 0x416b214e#32],
  [0xcc91f48c#32, 0xaff5b5b9#32, 0x97a3e192#32, 0xe57d1a77#32, 0x71f35c27#32, 0x00b614fe#32, 0xf22d9d96#32, 0x9e1372d9#32],
  [0x6abc652b#32, 0xcc91f48c#32, 0xaff5b5b9#32, 0x97a3e192#32, 0xeff75f6c#32, 0x71f35c27#32, 0x00b614fe#32, 0xf22d9d96#32],
  [0xcaa56058#32, 0x6abc652b#32, 0xcc91f48c#32, 0xaff5b5b9#32, 0x71326b3e#32, 0xeff75f6c#32, 0x71f35c27#32, 0x00b614fe#32],
  [0xad0fb856#32, 0xcaa56058#32, 0x6abc652b#32, 0xcc91f48c#32, 0xec619bf0#32, 0x71326b3e#32, 0xeff75f6c#32, 0x71f35c27#32],
  [0xc6322fc4#32, 0xad0fb856#32, 0xcaa56058#32, 0x6abc652b#32, 0x50fee71a#32, 0xec619bf0#32, 0x71326b3e#32, 0xeff75f6c#32],
  [0x322d0360#32, 0xc6322fc4#32, 0xad0fb856#32, 0xcaa56058#32, 0x47ac96bf#32, 0x50fee71a#32, 0xec619bf0#32, 0x71326b3e#32],
  [0xe5d277b2#32, 0x322d0360#32, 0xc6322fc4#32, 0xad0fb856#32, 0x66c15b4e#32, 0x47ac96bf#32, 0x50fee71a#32, 0xec619bf0#32],
  [0x68188e3a#32, 0xe5d277b2#32, 0x322d0360#32, 0xc6322fc4#32, 0xe1b8a5c8#32, 0x66c15b4e#32, 0x47ac96bf#32, 0x50fee71a#32],
  [0x8a82f4a5#32, 0x68188e3a#32, 0xe5d277b2#32, 0x322d0360#32, 0x66af924d#32, 0xe1b8a5c8#32, 0x66c15b4e#32, 0x47ac96bf#32],
  [0x2a16694b#32, 0x8a82f4a5#32, 0x68188e3a#32, 0xe5d277b2#32, 0xa751f6e5#32, 0x66af924d#32, 0xe1b8a5c8#32, 0x66c15b4e#32],
  [0x2136dd61#32, 0x2a16694b#32, 0x8a82f4a5#32, 0x68188e3a#32, 0x037c829f#32, 0xa751f6e5#32, 0x66af924d#32, 0xe1b8a5c8#32],
  [0xc11495a5#32, 0x2136dd61#32, 0x2a16694b#32, 0x8a82f4a5#32, 0x86e4ec14#32, 0x037c829f#32, 0xa751f6e5#32, 0x66af924d#32],
  [0x1759ce60#32, 0xc11495a5#32, 0x2136dd61#32, 0x2a16694b#32, 0xf1882adb#32, 0x86e4ec14#32, 0x037c829f#32, 0xa751f6e5#32],
  [0xa0e2063a#32, 0x1759ce60#32, 0xc11495a5#32, 0x2136dd61#32, 0xb7f44919#32, 0xf1882adb#32, 0x86e4ec14#32, 0x037c829f#32],
  [0x0c721ab1#32, 0xa0e2063a#32, 0x1759ce60#32, 0xc11495a5#32, 0x9a6305d5#32, 0xb7f44919#32, 0xf1882adb#32, 0x86e4ec14#32],
  [0xf1900d65#32, 0x0c721ab1#32, 0xa0e2063a#32, 0x1759ce60#32, 0x4f3473cd#32, 0x9a6305d5#32, 0xb7f44919#32, 0xf1882adb#32],
  [0xbf5ec3d3#32, 0xf1900d65#32, 0x0c721ab1#32, 0xa0e2063a#32, 0xde486be3#32, 0x4f3473cd#32, 0x9a6305d5#32, 0xb7f44919#32],
  [0xec9aefa7#32, 0xbf5ec3d3#32, 0xf1900d65#32, 0x0c721ab1#32, 0x45e5e4f1#32, 0xde486be3#32, 0x4f3473cd#32, 0x9a6305d5#32],
  [0x3c6ad6a4#32, 0xec9aefa7#32, 0xbf5ec3d3#32, 0xf1900d65#32, 0x5d9ae0e2#32, 0x45e5e4f1#32, 0xde486be3#32, 0x4f3473cd#32],
  [0xc129f0b8#32, 0x3c6ad6a4#32, 0xec9aefa7#32, 0xbf5ec3d3#32, 0xe4fd7068#32, 0x5d9ae0e2#32, 0x45e5e4f1#32, 0xde486be3#32],
  [0x33f6de25#32, 0xc129f0b8#32, 0x3c6ad6a4#32, 0xec9aefa7#32, 0xf4dc14ef#32, 0xe4fd7068#32, 0x5d9ae0e2#32, 0x45e5e4f1#32],
  [0xf611eb56#32, 0x33f6de25#32, 0xc129f0b8#32, 0x3c6ad6a4#32, 0x4a954769#32, 0xf4dc14ef#32, 0xe4fd7068#32, 0x5d9ae0e2#32]]
def cxText : List UInt8 := [98, 108, 111, 98, 32, 51, 50, 0, 48, 49, 50, 51, 52, 53, 54, 55, 56, 57, 97, 98, 99, 100, 101, 102, 48, 49, 50, 51, 52, 53, 54, 55, 56, 57, 65, 66, 67, 68, 69, 70] ++ padL 40
theorem cx_first : ∀ n, n < 16 → bePart (fun k => fn cxText (64 * 0 + k)) n 4 = at8 cxPlan n := by decide +kernel
theorem cx_plan : ∀ k, k < 48 → at8 cxPlan (16 + k) = ss1 (at8 cxPlan (14 + k)) + at8 cxPlan (9 + k) + ss0 (at8 cxPlan (1 + k)) + at8 cxPlan k := by decide +kernel
theorem cx_steps : ∀ k, k < 64 → stepOk (salt k) (at8 cxPlan k) (cxStates.getD k []) (cxStates.getD (k + 1) []) = true := by decide +kernel
theorem cx_init : ∀ n, n < 8 → init n = at8 (cxStates.getD 0 []) n := by decide +kernel
theorem cx_words : ∀ n, n < 8 → hashed (fn cxText) 1 n = init n + at8 (cxStates.getD 64 []) n := by
  intro n hn
  have hp : ∀ k, k < 64 → plan (fun k => fn cxText (64 * 0 + k)) k = at8 cxPlan k := fun k hk => plan_of _ cxPlan cx_first cx_plan 48 (Nat.le_refl _) k (by omega)
  have hr := rounds_of (plan (fun k => fn cxText (64 * 0 + k))) init cxStates cx_init (fun k hk => by rw [hp k hk]; exact cx_steps k hk) 64 (Nat.le_refl _) n hn
  rw [hashed, mix, added, if_pos hn, hashed, hr]
theorem cx_len : ([98, 108, 111, 98, 32, 51, 50, 0, 48, 49, 50, 51, 52, 53, 54, 55, 56, 57, 97, 98, 99, 100, 101, 102, 48, 49, 50, 51, 52, 53, 54, 55, 56, 57, 65, 66, 67, 68, 69, 70] ++ padL ([98, 108, 111, 98, 32, 51, 50, 0, 48, 49, 50, 51, 52, 53, 54, 55, 56, 57, 97, 98, 99, 100, 101, 102, 48, 49, 50, 51, 52, 53, 54, 55, 56, 57, 65, 66, 67, 68, 69, 70] : List UInt8).length).length / 64 = 1 := by decide +kernel
theorem cx_sum : sha [98, 108, 111, 98, 32, 51, 50, 0, 48, 49, 50, 51, 52, 53, 54, 55, 56, 57, 97, 98, 99, 100, 101, 102, 48, 49, 50, 51, 52, 53, 54, 55, 56, 57, 65, 66, 67, 68, 69, 70] = bstr 32 (outByte fun n => init n + at8 (cxStates.getD 64 []) n) := by
  rw [sha, cx_len, out]
  refine bstr_congr (fun k hk => ?_)
  have e := cx_words (k / 4) (by omega)
  unfold outByte
  rw [show hashed (fn ([98, 108, 111, 98, 32, 51, 50, 0, 48, 49, 50, 51, 52, 53, 54, 55, 56, 57, 97, 98, 99, 100, 101, 102, 48, 49, 50, 51, 52, 53, 54, 55, 56, 57, 65, 66, 67, 68, 69, 70] ++ padL ([98, 108, 111, 98, 32, 51, 50, 0, 48, 49, 50, 51, 52, 53, 54, 55, 56, 57, 97, 98, 99, 100, 101, 102, 48, 49, 50, 51, 52, 53, 54, 55, 56, 57, 65, 66, 67, 68, 69, 70] : List UInt8).length)) 1 (k / 4) = init (k / 4) + at8 (cxStates.getD 64 []) (k / 4) from e]
def cxSum : ByteArray := ⟨#[96, 27, 209, 189, 239, 94, 140, 170, 253, 152, 228, 42, 225, 186, 203, 222, 155, 163, 153, 232, 143, 225, 125, 123, 4, 129, 74, 19, 185, 123, 173, 251]⟩
theorem cx_is : sha [98, 108, 111, 98, 32, 51, 50, 0, 48, 49, 50, 51, 52, 53, 54, 55, 56, 57, 97, 98, 99, 100, 101, 102, 48, 49, 50, 51, 52, 53, 54, 55, 56, 57, 65, 66, 67, 68, 69, 70] = cxSum := by
  rw [cx_sum]
  have e : (List.range 32).map (outByte fun n => init n + at8 (cxStates.getD 64 []) n) = cxSum.data.toList := by decide +kernel
  rw [bstr, e]
def cyPlan : List (BitVec 32) := [0x626c6f62#32, 0x20333300#32, 0x30313233#32, 0x34353637#32, 0x38396162#32, 0x63646566#32, 0x30313233#32, 0x34353637#32, 0x38394142#32, 0x43444546#32, 0x21800000#32, 0x00000000#32, 0x00000000#32, 0x00000000#32, 0x00000000#32, 0x00000148#32, 0x6e36bcb2#32, 0x6f2abb2e#32, 0xdf692b4c#32, 0xda4e37f5#32, 0xc3256c34#32, 0x6d81b377#32, 0x714065cf#32, 0x656202a9#32, 0x7b6593f4#32, 0x68393f8f#32, 0x7768a3af#32, 0x7b51c388#32, 0xb34142e8#32, 0x4aec4c81#32, 0x7eb9a26c#32, 0xf15dedd6#32, 0xbbc4b4fd#32, 0xfa8211c0#32, 0xa48ab68d#32, 0x03661509#32, 0xab86eb96#32, 0x3e1a1e5f#32, 0xe9fe91b6#32, 0xf17a1d6f#32, 0x6cf40b98#32, 0xd2d26719#32, 0x6ef144c0#32, 0x3de89cd0#32, 0x9526ebf0#32, 0x52999a4c#32, 0xe1938b9e#32, 0x1dfd6fee#32, 0x5df15cea#32, 0x25fc3338#32, 0xff9abac0#32, 0xbb41e48a#32, 0x4650c4e3#32, 0xc32a1a18#32, 0xc98ead40#32, 0xdd8ca028#32, 0xc663f9c6#32, 0x72c709e5#32, 0x2f101a26#32, 0x337ebe8c#32, 0x5b12314f#32, 0x67da760b#32, 0xa2387e8a#32, 0xe27df197#32]
def cyStates : List (List (BitVec 32)) := [
  [0x6a09e667#32, 0xbb67ae85#32, 0x3c6ef372#32, 0xa54ff53a#32, 0x510e527f#32, 0x9b05688c#32, 0x1f83d9ab#32, 0x5be0cd19#32],
  [0x5e74f7af#32, 0x6a09e667#32, 0xbb67ae85#32, 0x3c6ef372#32, 0xfb345204#32, 0x510e527f#32, 0x9b05688c#32, 0x1f83d9ab#32],
  [0xfeeddb63#32, 0x5e74f7af#32, 0x6a09e667#32, 0xbb67ae85#32, 0x07bd74f9#32, 0xfb345204#32, 0x510e527f#32, 0x9b05688c#32],
  [0x8be96d46#32, 0xfeeddb63#32, 0x5e74f7af#32, 0x6a09e667#32, 0x351a1617#32, 0x07bd74f9#32, 0xfb345204#32, 0x510e527f#32],
  [0x9dd89688#32, 0x8be96d46#32, 0xfeeddb63#32, 0x5e74f7af#32, 0xbb795f53#32, 0x351a1617#32, 0x07bd74f9#32, 0xfb345204#32],
  [0x4be8985a#32, 0x9dd89688#32, 0x8be96d46#32, 0xfeeddb63#32, 0x190ac7b6#32, 0xbb795f53#32, 0x351a1617#32, 0x07bd74f9#32],
  [0x2c21c174#32, 0x4be8985a#32, 0x9dd89688#32, 0x8be96d46#32, 0xacddf010#32, 0x190ac7b6#32, 0xbb795f53#32, 0x351a1617#32],
  [0xd6a7d0a4#32, 0x2c21c174#32, 0x4be8985a#32, 0x9dd89688#32, 0xccfbebaf#32, 0xacddf010#32, 0x190ac7b6#32, 0xbb795f53#32],
  [0x6e542265#32, 0xd6a7d0a4#32, 0x2c21c174#32, 0x4be8985a#32, 0x8dbd162c#32, 0xccfbebaf#32, 0xacddf010#32, 0x190ac7b6#32],
  [0x05cf9b6d#32, 0x6e542265#32, 0xd6a7d0a4#32, 0x2c21c174#32, 0xcb5a83e2#32, 0x8dbd162c#32, 0xccfbebaf#32, 0xacddf010#32],
  [0xd5d2f9d3#32, 0x05cf9b6d#32, 0x6e542265#32, 0xd6a7d0a4#32, 0x16b6ac32#32, 0xcb5a83e2#32, 0x8dbd162c#32, 0xccfbebaf#32],
  [0x68fb3422#32, 0xd5d2f9d3#32, 0x05cf9b6d#32, 0x6e542265#32, 0x89bee9ad#32, 0x16b6ac32#32, 0xcb5a83e2#32, 0x8dbd162c#32],
  [0xa07c15e5#32, 0x68fb3422#32, 0xd5d2f9d3#32, 0x05cf9b6d#32, 0xf0f77b75#32, 0x89bee9ad#32, 0x16b6ac32#32, 0xcb5a83e2#32],
  [0x9ff00e72#32, 0xa07c15e5#32, 0x68fb3422#32, 0xd5d2f9d3#32, 0x8d5fe3e4#32, 0xf0f77b75#32, 0x89bee9ad#32, 0x16b6ac32#32],
  [0x172b3a97#32, 0x9ff00e72#32, 0xa07c15e5#32, 0x68fb3422#32, 0x2fb4e9a5#32, 0x8d5fe3e4#32, 0xf0f77b75#32, 0x89bee9ad#32],
  [0xd273268b#32, 0x172b3a97#32, 0x9ff00e72#32, 0xa07c15e5#32, 0xe65e1016#32, 0x2fb4e9a5#32, 0x8d5fe3e4#32, 0xf0f77b75#32],
  [0xfbc2af0b#32, 0xd273268b#32, 0x172b3a97#32, 0x9ff00e72#32, 0xf87320eb#32, 0xe65e1016#32, 0x2fb4e9a5#32, 0x8d5fe3e4#32],
  [0xb28e133b#32, 0xfbc2af0b#32, 0xd273268b#32, 0x172b3a97#32, 0xf30798ea#32, 0xf87320eb#32, 0xe65e1016#32, 0x2fb4e9a5#32],
  [0xf84c1ebf#32, 0xb28e133b#32, 0xfbc2af0b#32, 0xd273268b#32, 0xcf8233d7#32, 0xf30798ea#32, 0xf87320eb#32, 0xe65e1016#32],
  [0xe43e56e9#32, 0xf84c1ebf#32, 0xb28e133b#32, 0xfbc2af0b#32, 0x804d240b#32, 0xcf8233d7#32, 0xf30798ea#32, 0xf87320eb#32],
  [0x9add1716#32, 0xe43e56e9#32, 0xf84c1ebf#32, 0xb28e133b#32, 0x6f769b8e#32, 0x804d240b#32, 0xcf8233d7#32, 0xf30798ea#32],
  [0xbad42577#32, 0x9add1716#32, 0xe43e56e9#32, 0xf84c1ebf#32, 0x0aa658ad#32, 0x6f769b8e#32, 0x804d240b#32, 0xcf8233d7#32],
  [0x55085c40#32, 0xbad42577#32, 0x9add1716#32, 0xe43e56e9#32, 0xfcdb6271#32, 0x0aa658ad#32, 0x6f769b8e#32, 0x804d240b#32],
  [0xaf70aedc#32, 0x55085c40#32, 0xbad42577#32, 0x9add1716#32, 0x22a13269#32, 0xfcdb6271#32, 0x0aa658ad#32, 0x6f769b8e#32],
  [0x8c63c557#32, 0xaf70aedc#32, 0x55085c40#32, 0xbad42577#32, 0xc86e8d8a#32, 0x22a13269#32, 0xfcdb6271#32, 0x0aa658ad#32],
  [0xd44cabbd#32, 0x8c63c557#32, 0xaf70aedc#32, 0x55085c40#32, 0xbb0e3866#32, 0xc86e8d8a#32, 0x22a13269#32, 0xfcdb6271#32],
  [0x4dd10cab#32, 0xd44cabbd#32, 0x8c63c557#32, 0xaf70aedc#32, 0xfc253933#32, 0xbb0e3866#32, 0xc86e8d8a#32, 0x22a13269#32],
  [0xbbcd529b#32, 0x4dd10cab#32, 0xd44cabbd#32, 0x8c63c557#32, 0xacdff323#32, 0xfc253933#32, 0xbb0e3866#32, 0xc86e8d8a#32],
  [0x74906f02#32, 0xbbcd529b#32, 0x4dd10cab#32, 0xd44cabbd#32, 0xd3c2457b#32, 0xacdff323#32, 0xfc253933#32, 0xbb0e3866#32],
  [0xa58bd234#32, 0x74906f02#32, 0xbbcd529b#32, 0x4dd10cab#32, 0x577b78d5#32, 0xd3c2457b#32, 0xacdff323#32, 0xfc253933#32],
  [0x57e39eec#32, 0xa58bd234#32, 0x74906f02#32, 0xbbcd529b#32, 0x589c4f40#32, 0x577b78d5#32, 0xd3c2457b#32, 0xacdff323#32],
  [0x8f72cc0f#32, 0x57e39eec#32, 0xa58bd234#32, 0x74906f02#32, 0x68da568e#32, 0x589c4f40#32, 0x577b78d5#32, 0xd3c2457b#32],
  [0x8ebcd501#32, 0x8f72cc0f#32, 0x57e39eec#32, 0xa58bd234#32, 0x32d86f2f#32, 0x68da568e#32, 0x589c4f40#32, 0x577b78d5#32],
  [0xa1d84e76#32, 0x8ebcd501#32, 0x8f72cc0f#32, 0x57e39eec#32, 0x7e79fe01#32, 0x32d86f2f#32, 0x68da568e#32, 0x589c4f40#32],
  [0xf830ad1e#32, 0xa1d84e76#32, 0x8ebcd501#32, 0x8f72cc0f#32, 0x0520b82b#32, 0x7e79fe01#32, 0x32d86f2f#32, 0x68da568e#32],
  [0x87bb0bc9#32, 0xf830ad1e#32, 0xa1d84e76#32, 0x8ebcd501#32, 0x5a2579a0#32, 0x0520b82b#32, 0x7e79fe01#32, 0x32d86f2f#32],
  [0xcb143962#32, 0x87bb0bc9#32, 0xf830ad1e#32, 0xa1d84e76#32, 0xe48b25d1#32, 0x5a2579a0#32, 0x0520b82b#32, 0x7e79fe01#32],
  [0x7cd072b5#32, 0xcb143962#32, 0x87bb0bc9#32, 0xf830ad1e#32, 0x2a41ba0c#32, 0xe48b25d1#32, 0x5a2579a0#32, 0x0520b82b#32],
  [0xd6a0f76d#32, 0x7cd072b5#32, 0xcb143962#32, 0x87bb0bc9#32, 0x73ec38cd#32, 0x2a41ba0c#32, 0xe48b25d1#32, 0x5a2579a0#32],
  [0x72537068#32, 0xd6a0f76d#32, 0x7cd072b5#32, 0xcb143962#32, 0xce62c946#32, 0x73ec38cd#32, 0x2a41ba0c#32, 0xe48b25d1#32],
  [0x1644efe1#32, 0x72537068#32, 0xd6a0f76d#32, 0x7cd072b5#32, 0x9871c78e#32, 0xce62c946#32, 0x73ec38cd#32, 0x2a41ba0c#32],
  [0x989abae5#32, 0x1644efe1#32, 0x72537068#32, 0xd6a0f76d#32, 0x960428ab#32, 0x9871c78e#32, 0xce62c946#32, 0x73ec38cd#32],
  [0x6eaf44da#32, 0x989abae5#32, 0x1644efe1#32, 0x72537068#32, 0x571b4558#32, 0x960428ab#32, 0x9871c78e#32, 0xce62c946#32],
  [0x04eefb31#32, 0x6eaf44da#32, 0x989abae5#32, 0x1644efe1#32, 0x5847aec2#32, 0x571b4558#32, 0x960428ab#32, 0x9871c78e#32],
  [0x96d58a65#32, 0x04eefb31#32, 0x6eaf44da#32, 0x989abae5#32, 0x7d0c21ad#32, 0x5847aec2#32, 0x571b4558#32, 0x960428ab#32],
  [0xc4c0b61f#32, 0x96d58a65#32, 0x04eefb31#32, 0x6eaf44da#32, 0xf5bb6425#32, 0x7d0c21ad#32, 0x5847aec2#32, 0x571b4558#32],
  [0x9450077b#32, 0xc4c0b61f#32, 0x96d58a65#32, 0x04eefb31#32, 0x3b241d8f#32, 0xf5bb6425#32, 0x7d0c21ad#32, 0x5847aec2#32],
  [0xf5bc9b00#32, 0x9450077b#32, 0xc4c0b61f#32, 0x96d58a65#32, 0xc705c2a3#32, 0x3b241d8f#32, 0xf5bb6425#32, 0x7d0c21ad#32],
  [0x248d1cf0#32, 0xf5bc9b00#32, 0x9450077b#32, 0xc4c0b61f#32, 0xcf8d8748#32, 0xc705c2a3#32, 0x3b241d8f#32, 0xf5bb6425#32],
  [0x00c943ac#32, 0x248d1cf0#32, 0xf5bc9b00#32, 0x9450077b#32, 0x361c3695#32, 0xcf8d8748#32, 0xc705c2a3#32, 0x3b241d8f#32],
  [0x2bb57efa#32, 0x00c943ac#32, 0x248d1cf0#32, 0xf5bc9b00#32, 0x631b8433#32, 0x361c3695#32, 0xcf8d8748#32, 0xc705c2a3#32],
  [0x2bfc5a8c#32, 0x2bb57efa#32, 0x00c943ac#32, 0x248d1cf0#32, 0x5863abd9#32, 0x631b8433#32, 0x361c3695#32, 0xcf8d8748#32],
  [0xb130ffac#32, 0x2bfc5a8c#32, 0x2bb57efa#32, 0x00c943ac#32, 0x79cc4802#32, 0x5863abd9#32, 0x631b8433#32, 0x361c3695#32],
  [0x3df42145#32, 0xb130ffac#32, 0x2bfc5a8c#32, 0x2bb57efa#32, 0x0031e19d#32, 0x79cc4802#32, 0x5863abd9#32, 0x631b8433#32],
  [0xfc7710a2#32, 0x3df42145#32, 0xb130ffac#32, 0x2bfc5a8c#32, 0x58662109#32, 0x0031e19d#32, 0x79cc4802#32, 0x5863abd9#32],
  [0x7a4e7b64#32, 0xfc7710a2#32, 0x3df42145#32, 0xb130ffac#32, 0x028df7eb#32, 0x58662109#32, 0x0031e19d#32, 0x79cc4802#32],
  [0x50211bc1#32, 0x7a4e7b64#32, 0xfc7710a2#32, 0x3df42145#32, 0x887e0cc6#32, 0x028df7eb#32, 0x58662109#32, 0x0031e19d#32],
  [0xcffcf76a#32, 0x50211bc1#32, 0x7a4e7b64#32, 0xfc7710a2#32, 0x871c3a17#32, 0x887e0cc6#32, 0x028df7eb#32, 0x58662109#32],
  [0xad435959#32, 0xcffcf76a#32, 0x50211bc1#32, 0x7a4e7b64#32, 0x53d90599#32, 0x871c3a17#32, 0x887e0cc6#32, 0x028df7eb#32],
  [0xf6e69c5d#32, 0xad435959#32, 0xcffcf76a#32, 0x50211bc1#32, 0xf6dae17f#32, 0x53d90599#32, 0x871c3a17#32, 0x887e0cc6#32],
  [0x4f033ce6#32, 0xf6e69c5d#32, 0xad435959#32, 0xcffcf76a#32, 0xaa161356#32, 0xf6dae17f#32, 0x53d90599#32, 0x871c3a17#32],
  [0x09816d92#32, 0x4f033ce6#32, 0xf6e69c5d#32, 0xad435959#32, 0x723a1a83#32, 0xaa161356#32, 0xf6dae17f#32, 0x53d90599#32],
  [0x824c66bc#32, 0x09816d92#32, 0x4f033ce6#32, 0xf6e69c5d#32, 0xf4c623f6#32, 0x723a1a83#32, 0xaa161356#32, 0xf6dae17f#32],
  [0xc82af82e#32, 0x824c66bc#32, 0x09816d92#32, 0x4f033ce6#32, 0x8f222e10#32, 0xf4c623f6#32, 0x723a1a83#32, 0xaa161356#32],
  [0xb8fec666#32, 0xc82af82e#32, 0x824c66bc#32, 0x09816d92#32, 0xa75d5212#32, 0x8f222e10#32, 0xf4c623f6#32, 0x723a1a83#32]]
def cyText : List UInt8 := [98, 108, 111, 98, 32, 51, 51, 0, 48, 49, 50, 51, 52, 53, 54, 55, 56, 57, 97, 98, 99, 100, 101, 102, 48, 49, 50, 51, 52, 53, 54, 55, 56, 57, 65, 66, 67, 68, 69, 70, 33] ++ padL 41
theorem cy_first : ∀ n, n < 16 → bePart (fun k => fn cyText (64 * 0 + k)) n 4 = at8 cyPlan n := by decide +kernel
theorem cy_plan : ∀ k, k < 48 → at8 cyPlan (16 + k) = ss1 (at8 cyPlan (14 + k)) + at8 cyPlan (9 + k) + ss0 (at8 cyPlan (1 + k)) + at8 cyPlan k := by decide +kernel
theorem cy_steps : ∀ k, k < 64 → stepOk (salt k) (at8 cyPlan k) (cyStates.getD k []) (cyStates.getD (k + 1) []) = true := by decide +kernel
theorem cy_init : ∀ n, n < 8 → init n = at8 (cyStates.getD 0 []) n := by decide +kernel
theorem cy_words : ∀ n, n < 8 → hashed (fn cyText) 1 n = init n + at8 (cyStates.getD 64 []) n := by
  intro n hn
  have hp : ∀ k, k < 64 → plan (fun k => fn cyText (64 * 0 + k)) k = at8 cyPlan k := fun k hk => plan_of _ cyPlan cy_first cy_plan 48 (Nat.le_refl _) k (by omega)
  have hr := rounds_of (plan (fun k => fn cyText (64 * 0 + k))) init cyStates cy_init (fun k hk => by rw [hp k hk]; exact cy_steps k hk) 64 (Nat.le_refl _) n hn
  rw [hashed, mix, added, if_pos hn, hashed, hr]
theorem cy_len : ([98, 108, 111, 98, 32, 51, 51, 0, 48, 49, 50, 51, 52, 53, 54, 55, 56, 57, 97, 98, 99, 100, 101, 102, 48, 49, 50, 51, 52, 53, 54, 55, 56, 57, 65, 66, 67, 68, 69, 70, 33] ++ padL ([98, 108, 111, 98, 32, 51, 51, 0, 48, 49, 50, 51, 52, 53, 54, 55, 56, 57, 97, 98, 99, 100, 101, 102, 48, 49, 50, 51, 52, 53, 54, 55, 56, 57, 65, 66, 67, 68, 69, 70, 33] : List UInt8).length).length / 64 = 1 := by decide +kernel
theorem cy_sum : sha [98, 108, 111, 98, 32, 51, 51, 0, 48, 49, 50, 51, 52, 53, 54, 55, 56, 57, 97, 98, 99, 100, 101, 102, 48, 49, 50, 51, 52, 53, 54, 55, 56, 57, 65, 66, 67, 68, 69, 70, 33] = bstr 32 (outByte fun n => init n + at8 (cyStates.getD 64 []) n) := by
  rw [sha, cy_len, out]
  refine bstr_congr (fun k hk => ?_)
  have e := cy_words (k / 4) (by omega)
  unfold outByte
  rw [show hashed (fn ([98, 108, 111, 98, 32, 51, 51, 0, 48, 49, 50, 51, 52, 53, 54, 55, 56, 57, 97, 98, 99, 100, 101, 102, 48, 49, 50, 51, 52, 53, 54, 55, 56, 57, 65, 66, 67, 68, 69, 70, 33] ++ padL ([98, 108, 111, 98, 32, 51, 51, 0, 48, 49, 50, 51, 52, 53, 54, 55, 56, 57, 97, 98, 99, 100, 101, 102, 48, 49, 50, 51, 52, 53, 54, 55, 56, 57, 65, 66, 67, 68, 69, 70, 33] : List UInt8).length)) 1 (k / 4) = init (k / 4) + at8 (cyStates.getD 64 []) (k / 4) from e]
def cySum : ByteArray := ⟨#[35, 8, 172, 205, 131, 146, 166, 179, 190, 187, 90, 46, 174, 209, 98, 204, 248, 107, 164, 145, 42, 39, 150, 156, 20, 73, 253, 161, 206, 26, 231, 156]⟩
theorem cy_is : sha [98, 108, 111, 98, 32, 51, 51, 0, 48, 49, 50, 51, 52, 53, 54, 55, 56, 57, 97, 98, 99, 100, 101, 102, 48, 49, 50, 51, 52, 53, 54, 55, 56, 57, 65, 66, 67, 68, 69, 70, 33] = cySum := by
  rw [cy_sum]
  have e : (List.range 32).map (outByte fun n => init n + at8 (cyStates.getD 64 []) n) = cySum.data.toList := by decide +kernel
  rw [bstr, e]
end Sha
end Go.Proofs.YtdbbgpcjclmelaaGreatDoor.Sa
