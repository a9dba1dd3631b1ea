/- Which texts may be paths: two plain readings, one by pieces and one letter by letter, are one. -/
import Derived.Lib.Split
import Derived.Lib.DecodeN
import Derived.Shelf.GgClosure.StringsIndexFunc
namespace Go.Proofs.YtefefgiooknpkaaGreatDoor
open Go.Lib
def okB (c : UInt8) : Bool := (decide (97 ≤ c.toNat) && decide (c.toNat ≤ 122)) || (decide (48 ≤ c.toNat) && decide (c.toNat ≤ 57)) || decide (c.toNat = 46) || decide (c.toNat = 45) || decide (c.toNat = 95)
def strange (x : Nat) : Bool := !((decide (97 ≤ x) && decide (x ≤ 122)) || (decide (48 ≤ x) && decide (x ≤ 57)) || decide (x = 46) || decide (x = 45) || decide (x = 95))
theorem strange_byte (c : UInt8) : strange c.toNat = !okB c := rfl
def okSeg (l : List UInt8) : Bool := !(l == [] || l == [46] || l == [46, 46])
def scan : List UInt8 → List UInt8 → Bool
  | acc, [] => okSeg acc
  | acc, c :: r => if c = 47 then okSeg acc && scan [] r else okB c && scan (acc ++ [c]) r
def pathL (l : List UInt8) : Bool := decide (l.length ≤ 200) && scan [] l
def okName (l : List UInt8) : Bool := okSeg l && l.all okB
theorem scan_none (l : List UInt8) : ∀ acc, 47 ∉ l → scan acc l = (l.all okB && okSeg (acc ++ l)) := by
  induction l with
  | nil => intro acc _; simp [scan]
  | cons c r ih =>
    intro acc h
    have hc : c ≠ 47 := fun e => h (by simp [e])
    rw [scan, if_neg hc, ih _ (fun e => h (by simp [e])), List.all_cons, Bool.and_assoc]
    simp
theorem scan_some (a r : List UInt8) : ∀ acc, 47 ∉ a → scan acc (a ++ 47 :: r) = (a.all okB && okSeg (acc ++ a) && scan [] r) := by
  induction a with
  | nil => intro acc _; simp [scan]
  | cons c a ih =>
    intro acc h
    have hc : c ≠ 47 := fun e => h (by simp [e])
    rw [List.cons_append, scan, if_neg hc, ih _ (fun e => h (by simp [e])), List.all_cons]
    simp [Bool.and_assoc]
theorem index_slash_none (l : List UInt8) (h : 47 ∉ l) : index l [47] = -1 := by
  induction l with
  | nil => rfl
  | cons c r ih =>
    have hc : c ≠ 47 := fun e => h (by simp [e])
    have hr := ih (fun e => h (by simp [e]))
    rw [index, hr]
    have : ([47] : List UInt8).isPrefixOf (c :: r) = false := by simp [List.isPrefixOf]; exact fun e => hc e.symm
    simp [this]
theorem index_slash_some (a r : List UInt8) (h : 47 ∉ a) : index (a ++ 47 :: r) [47] = (a.length : Nat) := by
  induction a with
  | nil => simp [index, List.isPrefixOf]
  | cons c a ih =>
    have hc : c ≠ 47 := fun e => h (by simp [e])
    have hr := ih (fun e => h (by simp [e]))
    rw [List.cons_append, index, hr]
    have : ([47] : List UInt8).isPrefixOf (c :: (a ++ 47 :: r)) = false := by simp [List.isPrefixOf]; exact fun e => hc e.symm
    rw [this]
    have h2 : ((a.length : Nat) : Int) ≠ -1 := by omega
    simp [h2]
theorem cut_slash (l : List UInt8) : 47 ∉ l ∨ ∃ a r, l = a ++ 47 :: r ∧ 47 ∉ a := by
  induction l with
  | nil => exact .inl (by simp)
  | cons c l ih =>
    by_cases hc : c = 47
    · exact .inr ⟨[], l, by simp [hc], by simp⟩
    · rcases ih with h | ⟨a, r, e, ha⟩
      · exact .inl (by simp [h]; exact fun e => hc e.symm)
      · exact .inr ⟨c :: a, r, by simp [e], by simp [ha]; exact fun e => hc e.symm⟩
theorem split_scan : ∀ (n : Nat) (l : List UInt8), l.length ≤ n → (splitK [47] 0 (count l [47]) l).all okName = scan [] l := by
  intro n
  induction n with
  | zero =>
    intro l hl
    obtain rfl : l = [] := List.length_eq_zero_iff.1 (by omega)
    decide
  | succ n ih =>
    intro l hl
    rcases cut_slash l with h | ⟨a, r, rfl, ha⟩
    · rw [count_miss (index_slash_none l h), splitK, scan_none _ _ h]
      simp [okName, Bool.and_comm]
    · have hi := index_slash_some a r ha
      have hne : ¬ ((a.length : Nat) : Int) = -1 := by omega
      rw [count_hit (by simp) hi, Nat.add_comm, splitK, hi]
      simp only [beq_iff_eq, hne, if_false, Int.toNat_natCast, List.length_cons, List.length_nil, Nat.add_zero]
      have e1 : (a ++ 47 :: r).take a.length = a := by simp
      have e2 : (a ++ 47 :: r).drop (a.length + (0 + 1)) = r := by simp [List.drop_append]
      rw [e1, e2, List.all_cons, ih r (by simp at hl; omega), scan_some _ _ _ ha]
      simp [okName, Bool.and_comm]
theorem decode_big (n b0 b1 b2 b3 : Nat) (h : 128 ≤ b0) : 128 ≤ (decodeN n b0 b1 b2 b3).1 := by
  unfold decodeN
  rw [if_neg (by omega)]
  repeat' split
  all_goals first | (dsimp only; omega) | omega
theorem strange_big (x : Nat) (h : 128 ≤ x) : strange x = true := by
  unfold strange
  simp only [Bool.not_eq_true', Bool.or_eq_false_iff, Bool.and_eq_false_iff, decide_eq_false_iff_not]
  omega
theorem idx_at (s : ByteArray) (pos : Nat) (h : pos < s.size) : s.get! pos = s.data.toList[pos]'(by simpa using h) := by
  have : pos < s.data.size := h
  simp [ByteArray.get!]
  exact getElem!_pos s.data pos this
theorem idx_scan (s : ByteArray) : ∀ (f pos : Nat), s.size ≤ f + pos → decide (0 ≤ idxFuncFrom strange true s f pos) = !((s.data.toList.drop pos).all okB) := by
  intro f
  induction f with
  | zero =>
    intro pos h
    have : s.data.toList.drop pos = [] := List.drop_eq_nil_of_le (by simpa using h)
    rw [this]
    rfl
  | succ f ih =>
    intro pos h
    by_cases hp : pos < s.size
    · have hl : pos < s.data.toList.length := by simpa using hp
      rw [List.drop_eq_getElem_cons hl, List.all_cons, ← idx_at s pos hp]
      obtain ⟨c, hc⟩ : ∃ c, s.get! pos = c := ⟨_, rfl⟩
      rw [hc]
      unfold idxFuncFrom
      rw [if_pos hp, decode_at, hc]
      by_cases h128 : c.toNat < 128
      · have hd : ∀ n b1 b2 b3, decodeN n c.toNat b1 b2 b3 = (c.toNat, 1) := by intro n b1 b2 b3; rw [decodeN, if_pos h128]
        rw [hd]
        dsimp only
        rw [strange_byte]
        cases hk : okB c with
        | true => simp only [Bool.not_true, Bool.false_eq_true, if_false, Bool.true_and]; exact ih (pos + 1) (by omega)
        | false => simp
      · have hs := strange_big _ (decode_big (s.size - pos) c.toNat (s.get! (pos + 1)).toNat (s.get! (pos + 2)).toNat (s.get! (pos + 3)).toNat (by omega))
        rw [if_pos hs]
        have hk : okB c = false := by
          have := strange_byte c
          rw [strange_big _ (by omega)] at this
          cases hh : okB c with
          | true => rw [hh] at this; cases this
          | false => rfl
        simp [hk]
    · have : s.data.toList.drop pos = [] := List.drop_eq_nil_of_le (by simpa using hp)
      rw [idxFuncFrom_end _ _ _ _ _ hp, this]
      rfl
theorem contains_strange (s : ByteArray) : decide (0 ≤ idxFunc strange true s) = !(s.data.toList.all okB) := by
  have := idx_scan s s.size 0 (by omega)
  rw [List.drop_zero] at this
  exact this
/-- The pieces of a text. -/
def pieces (p : ByteArray) : List ByteArray := splitB ⟨#[47]⟩ 0 (countB p ⟨#[47]⟩) p
theorem pieces_all (p : ByteArray) : (pieces p).all (fun s => okName s.data.toList) = scan [] p.data.toList := by
  have h := splitB_data ⟨#[47]⟩ 0 (countB p ⟨#[47]⟩) p
  have e : (pieces p).all (fun s => okName s.data.toList) = ((pieces p).map (·.data.toList)).all okName := by simp [List.all_map]; rfl
  rw [e, pieces, h]
  exact split_scan _ _ (Nat.le_refl _)
end Go.Proofs.YtefefgiooknpkaaGreatDoor
