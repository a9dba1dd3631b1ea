/- The sums of SHA-256 as plain functions on words of 32 bits, and how the model's numbers of that kind come to them. -/
import Derived.WalkKit
import Derived.WalkSpells
import Derived.WalkLawsBesides
import Derived.Laws.CopyOwn
namespace Go.Proofs.YtllpfpbpdgpnkaaDoor.Sa
namespace Sha
def rotr (x : BitVec 32) (n : Nat) : BitVec 32 := (x >>> n) ||| (x <<< (32 - n))
def bs0 (x : BitVec 32) : BitVec 32 := rotr x 2 ^^^ rotr x 13 ^^^ rotr x 22
def bs1 (x : BitVec 32) : BitVec 32 := rotr x 6 ^^^ rotr x 11 ^^^ rotr x 25
def ss0 (x : BitVec 32) : BitVec 32 := rotr x 7 ^^^ rotr x 18 ^^^ (x >>> 3)
def ss1 (x : BitVec 32) : BitVec 32 := rotr x 17 ^^^ rotr x 19 ^^^ (x >>> 10)
def ch (x y z : BitVec 32) : BitVec 32 := (x &&& y) ^^^ (~~~x &&& z)
def maj (x y z : BitVec 32) : BitVec 32 := (x &&& y) ^^^ (x &&& z) ^^^ (y &&& z)

theorem ofInt_nat (x : BitVec 32) : BitVec.ofInt 32 (x.toNat : Int) = x := by
  apply BitVec.eq_of_toNat_eq
  rw [Go.ofInt_u32 _ x.isLt]
theorem b_and (x y : BitVec 32) : bits .and .u32 (x.toNat : Int) (y.toNat : Int) = ((x &&& y).toNat : Int) := by
  rw [Go.u32_and_nat _ _ x.isLt y.isLt, BitVec.toNat_and]
theorem b_or (x y : BitVec 32) : bits .or .u32 (x.toNat : Int) (y.toNat : Int) = ((x ||| y).toNat : Int) := by
  rw [Go.u32_or_nat _ _ x.isLt y.isLt, BitVec.toNat_or]
theorem b_xor (x y : BitVec 32) : bits .xor .u32 (x.toNat : Int) (y.toNat : Int) = ((x ^^^ y).toNat : Int) := by
  rw [Go.u32_xor_nat _ _ x.isLt y.isLt, BitVec.toNat_xor]
theorem b_add (x y : BitVec 32) : ((x.toNat : Int) + (y.toNat : Int)) % 4294967296 = ((x + y).toNat : Int) := by
  rw [BitVec.toNat_add]; simp
theorem w_add (x y : BitVec 32) : IntKind.u32.wrap ((x.toNat : Int) + (y.toNat : Int)) = ((x + y).toNat : Int) := by
  rw [Go.IntKind.wrap_u32', b_add]
theorem b_shr (x : BitVec 32) (n : Nat) : (x.toNat : Int) / 2 ^ n = ((x >>> n).toNat : Int) := by
  rw [BitVec.toNat_ushiftRight, Nat.shiftRight_eq_div_pow]; simp
theorem b_shl (x : BitVec 32) (n : Nat) : (x.toNat : Int) * 2 ^ n % 4294967296 = ((x <<< n).toNat : Int) := by
  rw [BitVec.toNat_shiftLeft, Nat.shiftLeft_eq]; simp
theorem b_not (x : BitVec 32) : bits .xor .u32 IntKind.u32.max (x.toNat : Int) = ((~~~x).toNat : Int) := by
  have h : IntKind.u32.max = (((4294967295#32 : BitVec 32).toNat : Nat) : Int) := by decide
  rw [h, b_xor]
  congr 2
theorem b_shr' (x : BitVec 32) (n : Nat) (m : Int := 2 ^ n) (h : m = 2 ^ n := by decide) : (x.toNat : Int) / m = ((x >>> n).toNat : Int) := by
  rw [h, b_shr]
theorem turn_val (x : BitVec 32) (n m : Nat) (h : m = 32 - n) (h1 : 1 ≤ n) (h2 : n ≤ 31) :
    ((x.toNat : Int) / 2 ^ n + (x.toNat : Int) * 2 ^ m % 4294967296) % 4294967296 = ((rotr x n).toNat : Int) := by
  subst h
  rw [b_shr, b_shl, b_add, rotr]
  congr 2
  apply BitVec.add_eq_or_of_and_eq_zero
  apply BitVec.eq_of_getLsbD_eq
  intro i hi
  simp only [BitVec.getLsbD_and, BitVec.getLsbD_ushiftRight, BitVec.getLsbD_shiftLeft, BitVec.getLsbD_zero]
  by_cases h : i < 32 - n
  · simp [h]
  · have : x.getLsbD (n + i) = false := BitVec.getLsbD_of_ge _ _ (by omega)
    simp [this]
theorem and31 (n : Nat) (h1 : 1 ≤ n) (h2 : n ≤ 31) : bits .and .u64 (IntKind.u64.wrap (-(n : Int))) 31 = ((32 - n : Nat) : Int) := by
  have : ∀ m : Fin 32, 1 ≤ m.val → bits .and .u64 (IntKind.u64.wrap (-(m.val : Int))) 31 = ((32 - m.val : Nat) : Int) := by decide +kernel
  exact this ⟨n, by omega⟩ h1
/-! Rows of memory that hold words, and bytes. -/
def word (x : BitVec 32) : Value := .int .u32 (x.toNat : Int)
def byte (x : UInt8) : Value := .int .u8 (x.toNat : Int)
def wordsL (n : Nat) (f : Nat → BitVec 32) : List Value := (List.range n).map fun k => word (f k)
def bytesL (n : Nat) (f : Nat → UInt8) : List Value := (List.range n).map fun k => byte (f k)
def wordsA (n : Nat) (f : Nat → BitVec 32) : Array Value := (wordsL n f).toArray
def bytesA (n : Nat) (f : Nat → UInt8) : Array Value := (bytesL n f).toArray
def up {α : Type} (f : Nat → α) (i : Nat) (v : α) : Nat → α := fun k => if k = i then v else f k
theorem wordsA_size (n : Nat) (f : Nat → BitVec 32) : (wordsA n f).size = n := by simp [wordsA, wordsL]
theorem bytesA_size (n : Nat) (f : Nat → UInt8) : (bytesA n f).size = n := by simp [bytesA, bytesL]
theorem wordsA_at (n : Nat) (f : Nat → BitVec 32) (k : Nat) (h : k < n) : (wordsA n f)[k]? = some (.int .u32 ((f k).toNat : Int)) := by
  simp [wordsA, wordsL, h, word]
theorem bytesA_at (n : Nat) (f : Nat → UInt8) (k : Nat) (h : k < n) : (bytesA n f)[k]? = some (.int .u8 ((f k).toNat : Int)) := by
  simp [bytesA, bytesL, h, byte]
theorem wordsA_set (n : Nat) (f : Nat → BitVec 32) (i : Nat) (v : BitVec 32) : (wordsA n f).setIfInBounds i (.int .u32 (v.toNat : Int)) = wordsA n (up f i v) := by
  apply Array.ext_getElem?
  intro k
  rw [Array.getElem?_setIfInBounds]
  simp only [wordsA, wordsL, up, word]
  by_cases hk : i = k
  · subst hk
    by_cases hi : i < n <;> simp [hi]
  · by_cases hi : k < n <;> simp [hi, hk]
    rw [if_neg (fun h => hk h.symm)]
theorem bytesA_set (n : Nat) (f : Nat → UInt8) (i : Nat) (v : UInt8) : (bytesA n f).setIfInBounds i (.int .u8 (v.toNat : Int)) = bytesA n (up f i v) := by
  apply Array.ext_getElem?
  intro k
  rw [Array.getElem?_setIfInBounds]
  simp only [bytesA, bytesL, up, byte]
  by_cases hk : i = k
  · subst hk
    by_cases hi : i < n <;> simp [hi]
  · by_cases hi : k < n <;> simp [hi, hk]
    rw [if_neg (fun h => hk h.symm)]
theorem wordsL_one (n : Nat) (f : Nat → BitVec 32) : ∀ v ∈ wordsL n f, v.oneCell' = true := by
  intro v hv
  simp only [wordsL, List.mem_map] at hv
  obtain ⟨k, _, rfl⟩ := hv
  rfl
theorem bytesL_one (n : Nat) (f : Nat → UInt8) : ∀ v ∈ bytesL n f, v.oneCell' = true := by
  intro v hv
  simp only [bytesL, List.mem_map] at hv
  obtain ⟨k, _, rfl⟩ := hv
  rfl
theorem wordsA_congr {n : Nat} {f g : Nat → BitVec 32} (h : ∀ k, k < n → f k = g k) : wordsA n f = wordsA n g := by
  unfold wordsA wordsL
  congr 1
  apply List.map_congr_left
  intro k hk
  rw [h k (List.mem_range.1 hk)]
theorem bytesA_congr {n : Nat} {f g : Nat → UInt8} (h : ∀ k, k < n → f k = g k) : bytesA n f = bytesA n g := by
  unfold bytesA bytesL
  congr 1
  apply List.map_congr_left
  intro k hk
  rw [h k (List.mem_range.1 hk)]
/-! A block's words. -/
def bePart (b : Nat → UInt8) (i : Nat) : Nat → BitVec 32
  | 0 => 0#32
  | j + 1 => (bePart b i j <<< 8) ||| BitVec.ofNat 32 (b (i * 4 + j)).toNat
def first (b : Nat → UInt8) (i : Nat) : Nat → BitVec 32 := fun k => if k < i then bePart b k 4 else 0#32
def ext (b : Nat → UInt8) : Nat → Nat → BitVec 32
  | 0 => first b 16
  | k + 1 => up (ext b k) (16 + k) (ss1 (ext b k (14 + k)) + ext b k (9 + k) + ss0 (ext b k (1 + k)) + ext b k k)
def plan (b : Nat → UInt8) : Nat → BitVec 32 := ext b 48
theorem first_next (b : Nat → UInt8) (i : Nat) : up (first b i) i (bePart b i 4) = first b (i + 1) := by
  funext k
  simp only [up, first]
  by_cases h : k = i
  · subst h; simp
  · by_cases h2 : k < i
    · simp [h, h2, show k < i + 1 by omega]
    · simp [h, h2, show ¬ k < i + 1 by omega]
theorem first_same (b : Nat → UInt8) (i : Nat) : up (first b i) i (bePart b i 0) = first b i := by
  funext k
  simp only [up, first, bePart]
  by_cases h : k = i
  · subst h; simp
  · simp [h]
theorem up_up {α : Type} (f : Nat → α) (i : Nat) (u v : α) : up (up f i u) i v = up f i v := by
  funext k; simp only [up]; split <;> rfl
theorem be_next (b : Nat → UInt8) (i j : Nat) (x : BitVec 32) (y : UInt8) (hx : x = bePart b i j) (hy : y = b (i * 4 + j)) :
    bits .or .u32 ((x.toNat : Int) * 256 % 4294967296) (y.toNat : Int) = ((bePart b i (j + 1)).toNat : Int) := by
  have e : (x.toNat : Int) * (256 : Int) % (4294967296 : Int) = ((x <<< 8).toNat : Int) := b_shl x 8
  have e2 : (y.toNat : Int) = ((BitVec.ofNat 32 y.toNat).toNat : Int) := by
    rw [BitVec.toNat_ofNat]; have := y.toNat_lt; omega
  rw [e, e2, b_or, hx, hy, bePart]
/-! The rounds. -/
def salts : List Nat := [0x428a2f98, 0x71374491, 0xb5c0fbcf, 0xe9b5dba5, 0x3956c25b, 0x59f111f1, 0x923f82a4, 0xab1c5ed5, 0xd807aa98, 0x12835b01, 0x243185be, 0x550c7dc3, 0x72be5d74, 0x80deb1fe, 0x9bdc06a7, 0xc19bf174, 0xe49b69c1, 0xefbe4786, 0x0fc19dc6, 0x240ca1cc, 0x2de92c6f, 0x4a7484aa, 0x5cb0a9dc, 0x76f988da, 0x983e5152, 0xa831c66d, 0xb00327c8, 0xbf597fc7, 0xc6e00bf3, 0xd5a79147, 0x06ca6351, 0x14292967, 0x27b70a85, 0x2e1b2138, 0x4d2c6dfc, 0x53380d13, 0x650a7354, 0x766a0abb, 0x81c2c92e, 0x92722c85, 0xa2bfe8a1, 0xa81a664b, 0xc24b8b70, 0xc76c51a3, 0xd192e819, 0xd6990624, 0xf40e3585, 0x106aa070, 0x19a4c116, 0x1e376c08, 0x2748774c, 0x34b0bcb5, 0x391c0cb3, 0x4ed8aa4a, 0x5b9cca4f, 0x682e6ff3, 0x748f82ee, 0x78a5636f, 0x84c87814, 0x8cc70208, 0x90befffa, 0xa4506ceb, 0xbef9a3f7, 0xc67178f2]
def salt (i : Nat) : BitVec 32 := BitVec.ofNat 32 (salts.getD i 0)
def down (k p : BitVec 32) (v : Nat → BitVec 32) : BitVec 32 := v 7 + bs1 (v 4) + ch (v 4) (v 5) (v 6) + k + p
def top (k p : BitVec 32) (v : Nat → BitVec 32) : BitVec 32 := down k p v + bs0 (v 0) + maj (v 0) (v 1) (v 2)
def shifted (v : Nat → BitVec 32) : Nat → BitVec 32 := fun n => if n = 0 then v 0 else v (n - 1)
def step (k p : BitVec 32) (v : Nat → BitVec 32) : Nat → BitVec 32 := up (up (shifted v) 0 (top k p v)) 4 (v 3 + down k p v)
def rounds (p : Nat → BitVec 32) (h : Nat → BitVec 32) : Nat → Nat → BitVec 32
  | 0 => h
  | k + 1 => step (salt k) (p k) (rounds p h k)
def added (h v : Nat → BitVec 32) (i : Nat) : Nat → BitVec 32 := fun n => if n < i then h n + v n else h n
def mix (h : Nat → BitVec 32) (b : Nat → UInt8) : Nat → BitVec 32 := added h (rounds (plan b) h 64) 8
theorem added_next (h v : Nat → BitVec 32) (i : Nat) : up (added h v i) i (h i + v i) = added h v (i + 1) := by
  funext k
  simp only [up, added]
  by_cases h1 : k = i
  · subst h1; simp
  · by_cases h2 : k < i
    · simp [h1, h2, show k < i + 1 by omega]
    · simp [h1, h2, show ¬ k < i + 1 by omega]
theorem added_at (h v : Nat → BitVec 32) (i : Nat) : added h v i i = h i := by simp [added]
theorem splice_shift (v : Nat → BitVec 32) : splice (wordsL 8 v) 1 (wordsL 7 v) = wordsL 8 (shifted v) := by
  simp [splice, wordsL, List.range, List.range.loop, shifted]
def inits : List Nat := [0x6a09e667, 0xbb67ae85, 0x3c6ef372, 0xa54ff53a, 0x510e527f, 0x9b05688c, 0x1f83d9ab, 0x5be0cd19]
def init (i : Nat) : BitVec 32 := BitVec.ofNat 32 (inits.getD i 0)
/-! What comes behind all bytes. -/
def noughts (L : Nat) : Nat := (119 - L % 64) % 64
def byteAt (L i : Nat) : UInt8 := UInt8.ofNat (L * 8 / 2 ^ (8 * i))
def padF (L n : Nat) : Nat → Nat → UInt8
  | 0 => up (fun _ => 0) 0 128
  | i + 1 => up (padF L n i) (n - 1 - i) (byteAt L i)
/-- Bytes as a string. -/
def bstr (n : Nat) (f : Nat → UInt8) : ByteArray := ⟨((List.range n).map f).toArray⟩
def pad (L : Nat) : ByteArray := bstr (noughts L + 9) (padF L (noughts L + 9) 8)
theorem byteAt_val (L i : Nat) : ((L : Int) * 8 / 2 ^ (8 * i)) % 256 = ((byteAt L i).toNat : Int) := by
  rw [byteAt, UInt8.toNat_ofNat']
  have : ((L * 8 / 2 ^ (8 * i) : Nat) : Int) = (L : Int) * 8 / 2 ^ (8 * i) := by simp
  rw [← this]
  omega
def ints (n : Nat) (f : Nat → UInt8) : List Int := (List.range n).map fun k => ((f k).toNat : Int)
theorem ints_len (n : Nat) (f : Nat → UInt8) : (ints n f).length = n := by simp [ints]
theorem ints_at (n : Nat) (f : Nat → UInt8) (i : Nat) (h : i < n) : (ints n f).getD i 0 = ((f i).toNat : Int) := by
  simp [ints, List.getD, h]
theorem str_of (n : Nat) (f : Nat → UInt8) : strOfNums (ints n f) = bstr n f := by
  simp [strOfNums, ints, bstr]
/-! Words as bytes, the highest first. -/
def outByte (h : Nat → BitVec 32) (i : Nat) : UInt8 := UInt8.ofNat ((h (i / 4)).toNat / 2 ^ (8 * (3 - i % 4)))
def outF (h : Nat → BitVec 32) (i : Nat) : Nat → UInt8 := fun k => if k < i then outByte h k else 0
def out (h : Nat → BitVec 32) : ByteArray := bstr 32 (outByte h)
theorem outF_next (h : Nat → BitVec 32) (i : Nat) : up (outF h i) i (outByte h i) = outF h (i + 1) := by
  funext k
  simp only [up, outF]
  by_cases h1 : k = i
  · subst h1; simp
  · by_cases h2 : k < i
    · simp [h1, h2, show k < i + 1 by omega]
    · simp [h1, h2, show ¬ k < i + 1 by omega]
theorem bstr_congr {n : Nat} {f g : Nat → UInt8} (h : ∀ k, k < n → f k = g k) : bstr n f = bstr n g := by
  unfold bstr
  congr 2
  apply List.map_congr_left
  intro k hk
  exact h k (List.mem_range.1 hk)
theorem out_val (x : BitVec 32) (m : Nat) : ((x.toNat : Int) / 2 ^ m) % 256 = ((UInt8.ofNat (x.toNat / 2 ^ m)).toNat : Int) := by
  rw [UInt8.toNat_ofNat']
  have : ((x.toNat / 2 ^ m : Nat) : Int) = (x.toNat : Int) / 2 ^ m := by simp
  rw [← this]
  omega
theorem ofByte (x : UInt8) : (BitVec.ofNat 32 x.toNat).toNat = x.toNat := by
  rw [BitVec.toNat_ofNat]; have := x.toNat_lt; omega
end Sha
open Go.RowKit in
/-- What one store into a row of words leaves. -/
theorem row_store {w : World} {g i n : Nat} {f : Nat → BitVec 32} {t : TypeId} (v : BitVec 32) (h : w.heap[g]? = some (.cells (Sha.wordsA n f) t (0, 0))) :
    (w.setCell ⟨g, i, none⟩ (.int .u32 (v.toNat : Int))).heap[g]? = some (.cells (Sha.wordsA n (Sha.up f i v)) t (0, 0)) := by
  rw [heap_setCell_same w g i _ t _ h, Sha.wordsA_set]
open Go.RowKit in
theorem row_other {w : World} {g h i : Nat} (v : Value) (hne : h ≠ g) : (w.setCell ⟨g, i, none⟩ v).heap[h]? = w.heap[h]? := by
  simp only [World.setCell]
  rw [Array.getElem?_modify, if_neg (fun e => hne e.symm)]
end Go.Proofs.YtllpfpbpdgpnkaaDoor.Sa
