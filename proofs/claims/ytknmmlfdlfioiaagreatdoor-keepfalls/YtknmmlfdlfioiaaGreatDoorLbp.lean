/- Names and runes: plain readings of a text's bytes. -/
import Derived.Lib.DecodeN
import Derived.Laws.RangeAny
namespace Go.Proofs.YtknmmlfdlfioiaaGreatDoor
open Go.Lib
namespace Lb
/-- The runes of a text from a place on, each with its width, as the language goes through it. -/
def runesF (s : ByteArray) : Nat → Nat → List (Nat × Nat)
  | 0, _ => []
  | f + 1, pos => if pos < s.size then Utf8.decode s pos :: runesF s f (pos + (Utf8.decode s pos).2) else []
def runes (s : ByteArray) : List (Nat × Nat) := runesF s s.size 0
/-- A byte that is no rune. -/
def isBad (d : Nat × Nat) : Bool := decide (d.1 = 65533) && decide (d.2 = 1)
/-- The number that the document's copy tells. -/
def refV (d : Nat × Nat) : Int := if isBad d = true then -1 else (d.1 : Int)
def bar (x : Nat) : Bool := decide (x < 32) || (decide (127 ≤ x) && decide (x ≤ 159)) || decide (x = 47) || decide (x = 65533)
def noName (l : List UInt8) : Bool := l == [] || decide (64 < l.length) || l == [46] || l == [46, 46]
def nameB (s : ByteArray) : Bool := !noName s.data.toList && (runes s).all (fun d => !bar d.1)
def good (s : ByteArray) (f pos : Nat) : Nat := (runesF s f pos).countP (fun d => !isBad d)
def bad (s : ByteArray) (f pos : Nat) : Nat := (runesF s f pos).countP isBad
theorem width_pos (s : ByteArray) (pos : Nat) (h : pos < s.size) : 1 ≤ (Utf8.decode s pos).2 := by
  by_cases ha : (s[pos]'h).toNat < 128
  · rw [decode_ascii s pos h ha]
    exact Nat.le_refl _
  · exact (decode_high s pos h (by omega)).2
theorem runes_step (s : ByteArray) (f pos : Nat) (h : pos < s.size) : runesF s (f + 1) pos = Utf8.decode s pos :: runesF s f (pos + (Utf8.decode s pos).2) := by rw [runesF, if_pos h]
theorem runes_end (s : ByteArray) (f pos : Nat) (h : ¬ pos < s.size) : runesF s f pos = [] := by cases f <;> simp [runesF, h]
theorem decodeN_width (n b0 b1 b2 b3 : Nat) (hn : 0 < n) : 1 ≤ (decodeN n b0 b1 b2 b3).2 ∧ (decodeN n b0 b1 b2 b3).2 ≤ n := by
  unfold decodeN
  repeat' split
  all_goals (dsimp only; omega)
theorem decode_width (s : ByteArray) (pos : Nat) (h : pos < s.size) : pos + (Utf8.decode s pos).2 ≤ s.size := by
  rw [decode_at]
  have := (decodeN_width (s.size - pos) (s.get! pos).toNat (s.get! (pos + 1)).toNat (s.get! (pos + 2)).toNat (s.get! (pos + 3)).toNat (by omega)).2
  omega
theorem get_list (s : ByteArray) (i : Nat) : s.get! i = s.data.toList.getD i 0 := by
  by_cases h : i < s.size
  · have h' : i < s.data.size := h
    rw [ByteArray.get!, getElem!_pos s.data i h', List.getD_eq_getElem?_getD, List.getElem?_eq_getElem (by simpa using h')]
    simp
  · have h' : ¬ i < s.data.size := h
    rw [ByteArray.get!, getElem!_neg s.data i h', List.getD_eq_getElem?_getD, List.getElem?_eq_none (by simpa using h')]
    rfl
theorem get_cut (s : ByteArray) (pos i : Nat) : (s.extract pos s.size).get! i = s.get! (pos + i) := by
  rw [get_list, get_list, ByteArray.data_extract]
  have h : s.data.size = s.size := rfl
  simp only [Array.toList_extract, List.extract_eq_take_drop, List.getD_eq_getElem?_getD]
  rw [List.take_of_length_le (by simp), List.getElem?_drop]
theorem size_cut (s : ByteArray) (pos : Nat) : (s.extract pos s.size).size = s.size - pos := by rw [ByteArray.size_extract]; omega
/-- What stands behind a place has the runes of the whole from there on. -/
theorem decode_cut (s : ByteArray) (pos : Nat) : Utf8.decode (s.extract pos s.size) 0 = Utf8.decode s pos := by
  rw [decode_at, decode_at, size_cut, get_cut, get_cut, get_cut, get_cut]
  simp
theorem cut_cut (s : ByteArray) (pos k : Nat) : (s.extract pos s.size).extract k (s.extract pos s.size).size = s.extract (pos + k) s.size := by
  have h : s.data.size = s.size := rfl
  have e : ∀ t : ByteArray, t.data.toList = (s.extract (pos + k) s.size).data.toList → t = s.extract (pos + k) s.size := by
    intro t ht; cases t; cases hh : s.extract (pos + k) s.size; simp [hh] at ht; simp [ht]
  apply e
  rw [size_cut]
  simp only [ByteArray.data_extract, Array.toList_extract, List.extract_eq_take_drop]
  rw [List.take_of_length_le (i := s.size - pos - k) (by simp), List.take_of_length_le (i := s.size - pos) (by simp), List.take_of_length_le (by simp), List.drop_drop]
/-- The document's way to tell the first rune, by classes of the first byte. -/
def valC (v least : Int) (n : Nat) : Int × Nat := if v < least ∨ (55296 ≤ v ∧ v < 57344) ∨ 1114111 < v then (-1, 1) else (v, n)
def cont (b : Nat) : Bool := decide (128 ≤ b) && decide (b ≤ 191)
def fstN (n b0 b1 b2 b3 : Nat) : Int × Nat :=
  if b0 < 128 then ((b0 : Int), 1)
  else if 194 ≤ b0 ∧ b0 < 224 then
    (if n ≤ 1 then (-1, 1) else if cont b1 = false then (-1, 1) else valC (((b0 : Int) - 192) * 64 + b1 - 128) 128 2)
  else if 224 ≤ b0 ∧ b0 < 240 then
    (if n ≤ 2 then (-1, 1) else if cont b1 = false then (-1, 1) else if cont b2 = false then (-1, 1) else valC ((((b0 : Int) - 224) * 64 + b1 - 128) * 64 + b2 - 128) 2048 3)
  else if 240 ≤ b0 ∧ b0 < 245 then
    (if n ≤ 3 then (-1, 1) else if cont b1 = false then (-1, 1) else if cont b2 = false then (-1, 1) else if cont b3 = false then (-1, 1) else valC (((((b0 : Int) - 240) * 64 + b1 - 128) * 64 + b2 - 128) * 64 + b3 - 128) 65536 4)
  else (-1, 1)
def refD (d : Nat × Nat) : Int × Nat := (refV d, d.2)
theorem refD_mk (x k : Nat) : refD (x, k) = (if x = 65533 ∧ k = 1 then ((-1 : Int), 1) else ((x : Int), k)) := by
  unfold refD refV isBad
  by_cases h : x = 65533 ∧ k = 1
  · obtain ⟨rfl, rfl⟩ := h; rfl
  · rw [if_neg h, if_neg (by simpa using h)]
set_option maxHeartbeats 4000000 in
theorem fstN_eq (n b0 b1 b2 b3 : Nat) (h0 : b0 < 256) (h1 : b1 < 256) (h2 : b2 < 256) (h3 : b3 < 256) : fstN n b0 b1 b2 b3 = refD (decodeN n b0 b1 b2 b3) := by
  unfold fstN decodeN valC cont
  simp only [Bool.and_eq_false_iff, decide_eq_false_iff_not]
  repeat' split
  all_goals rw [refD_mk]
  all_goals first | (rw [if_pos (by omega)]; done) | (rw [if_neg (by omega)]; done) | (rw [if_neg (by omega)]; apply Prod.ext <;> simp only <;> omega) | (exfalso; omega)
theorem first_eq (s : ByteArray) : fstN s.size (s.get! 0).toNat (s.get! 1).toNat (s.get! 2).toNat (s.get! 3).toNat = refD (Utf8.decode s 0) := by
  rw [fstN_eq _ _ _ _ _ (UInt8.toNat_lt _) (UInt8.toNat_lt _) (UInt8.toNat_lt _) (UInt8.toNat_lt _), decode_at]
  simp
theorem bad_prefix (n b0 b1 b2 b3 : Nat) (h1 : b1 < 256) (h : (decodeN n b0 b1 b2 b3).1 = 65533) : isBad (decodeN n b0 b1 b2 b3) = !(decide (3 ≤ n) && decide (b0 = 239) && decide (b1 = 191) && decide (b2 = 189)) := by
  have e : isBad (decodeN n b0 b1 b2 b3) = decide ((decodeN n b0 b1 b2 b3).2 = 1) := by simp [isBad, h]
  rw [e]
  have k : ((decodeN n b0 b1 b2 b3).2 = 1) ↔ ¬ (3 ≤ n ∧ b0 = 239 ∧ b1 = 191 ∧ b2 = 189) := by
    revert h
    unfold decodeN
    repeat' split
    all_goals (dsimp only; omega)
  by_cases hh : 3 ≤ n ∧ b0 = 239 ∧ b1 = 191 ∧ b2 = 189
  · have := mt k.1 (not_not_intro hh)
    obtain ⟨a, b, c, d⟩ := hh
    rw [decide_eq_false this]
    simp [a, b, c, d]
  · have := k.2 hh
    simp only [this, decide_true]
    have : ¬ ((3 ≤ n ∧ b0 = 239) ∧ b1 = 191) ∨ ¬ b2 = 189 := by omega
    symm
    simp only [Bool.not_eq_true', Bool.and_eq_false_iff, decide_eq_false_iff_not]
    omega
end Lb
end Go.Proofs.YtknmmlfdlfioiaaGreatDoor
