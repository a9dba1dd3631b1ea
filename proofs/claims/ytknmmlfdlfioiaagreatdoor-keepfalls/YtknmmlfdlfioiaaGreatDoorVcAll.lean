/- Which texts may be paths: two plain readings, one by pieces and one letter by letter, are one. Small facts on texts, letters and worlds that the walks of this seat share. Which texts may be paths, as the document's copy says it, walked. Which texts may be paths, as the program says it, walked. The memory of folders and files: the block of the whole, of a file, of maps; small functions walked. Small methods of the whole, walked. What turns the whole, walked: a step; a file's bytes; names. A file's bytes are laid, walked. An append to a row that the call owns, as one step of a region. A name comes, walked. A file comes, by a Write, walked. Sync, Read, Up, and the two Writes that the statements make, walked. What was done in a folder is sure: SyncDir of the root behind one file's coming, walked. The keys of a map that holds nothing, gathered and sorted; a map cloned; a map cleared. The power fails, nothing is kept; it comes again: walked behind one sure file and one that is not. Power given; a new one; small facts. Small facts on ranges. Names at whatever map: is a folder there, does nothing stand in it: walked. Names, whatever is done to them: walked at any map. Was it done in that folder: walked at any act. Which acts are kept, and what is left of a file: walked at any numbers. A name is about to be lost: walked at any map. Files whose links alone are told anew: what holds of worlds between which nothing else changed. What files use, counted anew: walked at any map. Something is done to the names that are now, and kept in mind: walked at any map, whatever it is. The file that stands there; is there no power: walked at any map. Two paths that may be, or may not: walked. What a nil one answers: each call, walked. Why there is no folder: walked at any map. The whole at any state, its maps laid or not yet: what the calls look at, and one step. What the calls leave of all else; files that are well; a name about to be lost, at any state. Mkdir at any state, walked. Remove at any state, walked. Rename at any state, walked. A file's bytes laid, Sync and Read, at any state, walked. Write at any state, walked. Write of a file that is there, and Write whatever there is, at any state, walked. Write at any state: each way. What was done to names, as a row of any length; the first of a folder, walked. -/
import Derived.Lib.Split
import Derived.Lib.DecodeN
import Derived.Shelf.GgClosure.StringsIndexFunc
import Derived.Test.YtknmmlfdlfioiaaGreatDoorProg
import Derived.WalkKit
import Derived.BigRegion
import Derived.Deep.QuietTactic
import Derived.BigQuiet
import Derived.Test.YtknmmlfdlfioiaaGreatDoorShelf
import Derived.Maps.OwnSet
import Derived.Maps.OwnOps
import Derived.LoopN
import Derived.Deep.RegionLaw
import Derived.Deep.RegionHeld3
import Derived.OwnWalk
import Derived.Lib.SliceRun
import Derived.Test.YtknmmlfdlfioiaaGreatDoorIter
import Derived.Shelf.SlMaps.Clone
import Derived.Maps.RangeWalk
import Derived.Sort.MapsRangeIn
import Derived.Deep.AppendLies
namespace Go.Proofs.YtknmmlfdlfioiaaGreatDoor.Vc
open Go.Lib
def okB (c : UInt8) : Bool := (decide (97 ≤ c.toNat) && decide (c.toNat ≤ 122)) || (decide (48 ≤ c.toNat) && decide (c.toNat ≤ 57)) || decide (c.toNat = 46) || decide (c.toNat = 45) || decide (c.toNat = 95)
def strange (x : Nat) : Bool := !((decide (97 ≤ x) && decide (x ≤ 122)) || (decide (48 ≤ x) && decide (x ≤ 57)) || decide (x = 46) || decide (x = 45) || decide (x = 95))
theorem strange_byte (c : UInt8) : strange c.toNat = !okB c := rfl
def okSeg (l : List UInt8) : Bool := !(l == [] || l == [46] || l == [46, 46])
def scan : List UInt8 → List UInt8 → Bool
  | acc, [] => okSeg acc
  | acc, c :: r => if c = 47 then okSeg acc && scan [] r else okB c && scan (acc ++ [c]) r
def pathL (l : List UInt8) : Bool := decide (l.length ≤ 200) && scan [] l
def okName (l : List UInt8) : Bool := okSeg l && l.all okB
theorem scan_none (l : List UInt8) : ∀ acc, 47 ∉ l → scan acc l = (l.all okB && okSeg (acc ++ l)) := by
  induction l with
  | nil => intro acc _; simp [scan]
  | cons c r ih =>
    intro acc h
    have hc : c ≠ 47 := fun e => h (by simp [e])
    rw [scan, if_neg hc, ih _ (fun e => h (by simp [e])), List.all_cons, Bool.and_assoc]
    simp
theorem scan_some (a r : List UInt8) : ∀ acc, 47 ∉ a → scan acc (a ++ 47 :: r) = (a.all okB && okSeg (acc ++ a) && scan [] r) := by
  induction a with
  | nil => intro acc _; simp [scan]
  | cons c a ih =>
    intro acc h
    have hc : c ≠ 47 := fun e => h (by simp [e])
    rw [List.cons_append, scan, if_neg hc, ih _ (fun e => h (by simp [e])), List.all_cons]
    simp [Bool.and_assoc]
theorem index_slash_none (l : List UInt8) (h : 47 ∉ l) : index l [47] = -1 := by
  induction l with
  | nil => rfl
  | cons c r ih =>
    have hc : c ≠ 47 := fun e => h (by simp [e])
    have hr := ih (fun e => h (by simp [e]))
    rw [index, hr]
    have : ([47] : List UInt8).isPrefixOf (c :: r) = false := by simp [List.isPrefixOf]; exact fun e => hc e.symm
    simp [this]
theorem index_slash_some (a r : List UInt8) (h : 47 ∉ a) : index (a ++ 47 :: r) [47] = (a.length : Nat) := by
  induction a with
  | nil => simp [index, List.isPrefixOf]
  | cons c a ih =>
    have hc : c ≠ 47 := fun e => h (by simp [e])
    have hr := ih (fun e => h (by simp [e]))
    rw [List.cons_append, index, hr]
    have : ([47] : List UInt8).isPrefixOf (c :: (a ++ 47 :: r)) = false := by simp [List.isPrefixOf]; exact fun e => hc e.symm
    rw [this]
    have h2 : ((a.length : Nat) : Int) ≠ -1 := by omega
    simp [h2]
theorem cut_slash (l : List UInt8) : 47 ∉ l ∨ ∃ a r, l = a ++ 47 :: r ∧ 47 ∉ a := by
  induction l with
  | nil => exact .inl (by simp)
  | cons c l ih =>
    by_cases hc : c = 47
    · exact .inr ⟨[], l, by simp [hc], by simp⟩
    · rcases ih with h | ⟨a, r, e, ha⟩
      · exact .inl (by simp [h]; exact fun e => hc e.symm)
      · exact .inr ⟨c :: a, r, by simp [e], by simp [ha]; exact fun e => hc e.symm⟩
theorem split_scan : ∀ (n : Nat) (l : List UInt8), l.length ≤ n → (splitK [47] 0 (count l [47]) l).all okName = scan [] l := by
  intro n
  induction n with
  | zero =>
    intro l hl
    obtain rfl : l = [] := List.length_eq_zero_iff.1 (by omega)
    decide
  | succ n ih =>
    intro l hl
    rcases cut_slash l with h | ⟨a, r, rfl, ha⟩
    · rw [count_miss (index_slash_none l h), splitK, scan_none _ _ h]
      simp [okName, Bool.and_comm]
    · have hi := index_slash_some a r ha
      have hne : ¬ ((a.length : Nat) : Int) = -1 := by omega
      rw [count_hit (by simp) hi, Nat.add_comm, splitK, hi]
      simp only [beq_iff_eq, hne, if_false, Int.toNat_natCast, List.length_cons, List.length_nil, Nat.add_zero]
      have e1 : (a ++ 47 :: r).take a.length = a := by simp
      have e2 : (a ++ 47 :: r).drop (a.length + (0 + 1)) = r := by simp [List.drop_append]
      rw [e1, e2, List.all_cons, ih r (by simp at hl; omega), scan_some _ _ _ ha]
      simp [okName, Bool.and_comm]
theorem decode_big (n b0 b1 b2 b3 : Nat) (h : 128 ≤ b0) : 128 ≤ (decodeN n b0 b1 b2 b3).1 := by
  unfold decodeN
  rw [if_neg (by omega)]
  repeat' split
  all_goals first | (dsimp only; omega) | omega
theorem strange_big (x : Nat) (h : 128 ≤ x) : strange x = true := by
  unfold strange
  simp only [Bool.not_eq_true', Bool.or_eq_false_iff, Bool.and_eq_false_iff, decide_eq_false_iff_not]
  omega
theorem idx_at (s : ByteArray) (pos : Nat) (h : pos < s.size) : s.get! pos = s.data.toList[pos]'(by simpa using h) := by
  have : pos < s.data.size := h
  simp [ByteArray.get!]
  exact getElem!_pos s.data pos this
theorem idx_scan (s : ByteArray) : ∀ (f pos : Nat), s.size ≤ f + pos → decide (0 ≤ idxFuncFrom strange true s f pos) = !((s.data.toList.drop pos).all okB) := by
  intro f
  induction f with
  | zero =>
    intro pos h
    have : s.data.toList.drop pos = [] := List.drop_eq_nil_of_le (by simpa using h)
    rw [this]
    rfl
  | succ f ih =>
    intro pos h
    by_cases hp : pos < s.size
    · have hl : pos < s.data.toList.length := by simpa using hp
      rw [List.drop_eq_getElem_cons hl, List.all_cons, ← idx_at s pos hp]
      obtain ⟨c, hc⟩ : ∃ c, s.get! pos = c := ⟨_, rfl⟩
      rw [hc]
      unfold idxFuncFrom
      rw [if_pos hp, decode_at, hc]
      by_cases h128 : c.toNat < 128
      · have hd : ∀ n b1 b2 b3, decodeN n c.toNat b1 b2 b3 = (c.toNat, 1) := by intro n b1 b2 b3; rw [decodeN, if_pos h128]
        rw [hd]
        dsimp only
        rw [strange_byte]
        cases hk : okB c with
        | true => simp only [Bool.not_true, Bool.false_eq_true, if_false, Bool.true_and]; exact ih (pos + 1) (by omega)
        | false => simp
      · have hs := strange_big _ (decode_big (s.size - pos) c.toNat (s.get! (pos + 1)).toNat (s.get! (pos + 2)).toNat (s.get! (pos + 3)).toNat (by omega))
        rw [if_pos hs]
        have hk : okB c = false := by
          have := strange_byte c
          rw [strange_big _ (by omega)] at this
          cases hh : okB c with
          | true => rw [hh] at this; cases this
          | false => rfl
        simp [hk]
    · have : s.data.toList.drop pos = [] := List.drop_eq_nil_of_le (by simpa using hp)
      rw [idxFuncFrom_end _ _ _ _ _ hp, this]
      rfl
theorem contains_strange (s : ByteArray) : decide (0 ≤ idxFunc strange true s) = !(s.data.toList.all okB) := by
  have := idx_scan s s.size 0 (by omega)
  rw [List.drop_zero] at this
  exact this
/-- The pieces of a text. -/
def pieces (p : ByteArray) : List ByteArray := splitB ⟨#[47]⟩ 0 (countB p ⟨#[47]⟩) p
theorem pieces_all (p : ByteArray) : (pieces p).all (fun s => okName s.data.toList) = scan [] p.data.toList := by
  have h := splitB_data ⟨#[47]⟩ 0 (countB p ⟨#[47]⟩) p
  have e : (pieces p).all (fun s => okName s.data.toList) = ((pieces p).map (·.data.toList)).all okName := by simp [List.all_map]; rfl
  rw [e, pieces, h]
  exact split_scan _ _ (Nat.le_refl _)
end Go.Proofs.YtknmmlfdlfioiaaGreatDoor.Vc
namespace Go.Proofs.YtknmmlfdlfioiaaGreatDoor.Vc
open Go.RowKit
theorem hideIt {p : Prop} (h : p) : Hid p := h
def bs (l : List UInt8) : ByteArray := ⟨l.toArray⟩
theorem bs_data (s : ByteArray) : bs s.data.toList = s := by cases s; simp [bs]
theorem bs_list (l : List UInt8) : (bs l).data.toList = l := by simp [bs]
theorem bs_size (l : List UInt8) : (bs l).size = l.length := by simp [bs, ByteArray.size]
theorem str_len (s : ByteArray) : s.data.toList.length = s.size := by rw [Array.length_toList]; rfl
theorem below_step {B : Nat} {w a b : World} (h : Below B w a) (hB : B ≤ w.heap.size) (k : Below a.heap.size a b) : Below B w b := h.trans (k.mono (Nat.le_trans hB h.size))
theorem below2 {w a b : World} (h : Below w.heap.size w a) (k : Below a.heap.size a b) : Below w.heap.size w b := below_step h (Nat.le_refl _) k
theorem alloc_at {w : World} {o : Obj} {n : Nat} (h : w.heap.size = n) : (w.alloc o).heap[n]? = some o := by subst h; exact heap_alloc_new w o
/-- How a letter compares: all that a walk asks, as equations. -/
structure Cmp (x : Int) (a b c d e f g : Bool) : Prop where
  a1 : decide ((97 : Int) ≤ x) = a
  b1 : decide (x ≤ (122 : Int)) = b
  c1 : decide ((48 : Int) ≤ x) = c
  d1 : decide (x ≤ (57 : Int)) = d
  e1 : (x == 46) = e
  f1 : (x == 45) = f
  g1 : (x == 95) = g
theorem cmp_cases (x : Int) : Cmp x true true true false false false false ∨ Cmp x true false true false false false false ∨ Cmp x false true true true false false false ∨ Cmp x false true true false false false true ∨ Cmp x false true true false false false false
    ∨ Cmp x false true false true true false false ∨ Cmp x false true false true false true false ∨ Cmp x false true false true false false false := by
  have mk : ∀ a b c d e f g : Bool, (decide ((97 : Int) ≤ x) = a ∧ decide (x ≤ (122 : Int)) = b ∧ decide ((48 : Int) ≤ x) = c ∧ decide (x ≤ (57 : Int)) = d ∧ (x == 46) = e ∧ (x == 45) = f ∧ (x == 95) = g) → Cmp x a b c d e f g := fun a b c d e f g h => ⟨h.1, h.2.1, h.2.2.1, h.2.2.2.1, h.2.2.2.2.1, h.2.2.2.2.2.1, h.2.2.2.2.2.2⟩
  by_cases h1 : 97 ≤ x
  · by_cases h2 : x ≤ 122
    · exact .inl (mk _ _ _ _ _ _ _ (by simp; omega))
    · exact .inr (.inl (mk _ _ _ _ _ _ _ (by simp; omega)))
  · by_cases h3 : 48 ≤ x
    · by_cases h4 : x ≤ 57
      · exact .inr (.inr (.inl (mk _ _ _ _ _ _ _ (by simp; omega))))
      · by_cases h5 : x = 95
        · exact .inr (.inr (.inr (.inl (mk _ _ _ _ _ _ _ (by simp; omega)))))
        · exact .inr (.inr (.inr (.inr (.inl (mk _ _ _ _ _ _ _ (by simp; omega))))))
    · by_cases h6 : x = 46
      · exact .inr (.inr (.inr (.inr (.inr (.inl (mk _ _ _ _ _ _ _ (by simp; omega)))))))
      · by_cases h7 : x = 45
        · exact .inr (.inr (.inr (.inr (.inr (.inr (.inl (mk _ _ _ _ _ _ _ (by simp; omega))))))))
        · exact .inr (.inr (.inr (.inr (.inr (.inr (.inr (mk _ _ _ _ _ _ _ (by simp; omega))))))))
end Go.Proofs.YtknmmlfdlfioiaaGreatDoor.Vc
namespace Go.Proofs.YtknmmlfdlfioiaaGreatDoor.Vc
open Go.RowKit
def segL (l : List UInt8) (a k : Nat) : List UInt8 := (l.drop a).take (k - a)
theorem seg_next (l : List UInt8) (a k : Nat) (h : a ≤ k) (hk : k < l.length) : segL l a (k + 1) = segL l a k ++ [l[k]] := by
  unfold segL
  rw [show k + 1 - a = (k - a) + 1 by omega, List.take_add_one, List.getElem?_drop, show a + (k - a) = k by omega, List.getElem?_eq_getElem hk]
  rfl
theorem seg_self (l : List UInt8) (k : Nat) : segL l k k = [] := by simp [segL]
theorem scan_slash (acc r : List UInt8) : scan acc (47 :: r) = (okSeg acc && scan [] r) := by simp [scan]
theorem scan_byte (acc r : List UInt8) (c : UInt8) (h : c ≠ 47) : scan acc (c :: r) = (okB c && scan (acc ++ [c]) r) := by simp [scan, h]
theorem extract_list (s : ByteArray) (a k : Nat) : (s.extract a k).data.toList = segL s.data.toList a k := by
  rw [ByteArray.data_extract]; simp [segL, List.extract_eq_take_drop]
structure PathRel (l : List UInt8) (n a k : Nat) : Prop where
  le : k ≤ n + 1
  go : k ≤ n → a ≤ k ∧ scan (segL l a k) (l.drop k) = scan [] l
  fin : k = n + 1 → scan [] l = true
theorem PathRel.start (l : List UInt8) (n : Nat) : PathRel l n 0 0 := ⟨by omega, fun _ => ⟨Nat.le_refl _, by simp [segL]⟩, fun h => by omega⟩
theorem okB_of {c : UInt8} {a b d e f g h : Bool} (H : Cmp (c.toNat : Int) a b d e f g h) : okB c = (((((a && b) || (d && e)) || f) || g) || h) := by
  obtain ⟨h1, h2, h3, h4, h5, h6, h7⟩ := H
  subst h1 h2 h3 h4 h5 h6 h7
  unfold okB
  have e1 : ∀ n : Nat, ((c.toNat : Int) == (n : Int)) = decide (c.toNat = n) := by intro n; by_cases hh : c.toNat = n <;> simp [hh] <;> omega
  have e46 := e1 46
  have e45 := e1 45
  have e95 := e1 95
  simp only [Int.cast_ofNat_Int] at e46 e45 e95
  rw [e46, e45, e95]
  congr 1
  congr 1
  congr 1
  congr 1
  · congr 1 <;> (apply decide_eq_decide.2; omega)
  · congr 1 <;> (apply decide_eq_decide.2; omega)
theorem PathRel.bad {l : List UInt8} {n a k : Nat} (h : PathRel l n a k) (hl : l.length = n) (hk : k < n) {c : UInt8} (hc : l[k]? = some c) (h47 : c ≠ 47) (hb : okB c = false) : scan [] l = false := by
  obtain ⟨_, e⟩ := h.go (by omega)
  rw [← e, List.drop_eq_getElem_cons (by omega)]
  have : l[k]'(by omega) = c := by rw [List.getElem?_eq_getElem (by omega)] at hc; exact Option.some.inj hc
  rw [this, scan_byte _ _ _ h47, hb, Bool.false_and]
theorem PathRel.byte {l : List UInt8} {n a k : Nat} (h : PathRel l n a k) (hl : l.length = n) (hk : k < n) {c : UInt8} (hc : l[k]? = some c) (h47 : c ≠ 47) (hb : okB c = true) : PathRel l n a (k + 1) := by
  obtain ⟨ha, e⟩ := h.go (by omega)
  have hg : l[k]'(by omega) = c := by rw [List.getElem?_eq_getElem (by omega)] at hc; exact Option.some.inj hc
  refine ⟨by omega, fun _ => ⟨by omega, ?_⟩, fun hh => by omega⟩
  rw [seg_next l a k ha (by omega), hg, ← e, List.drop_eq_getElem_cons (by omega : k < l.length), hg, scan_byte _ _ _ h47, hb, Bool.true_and]
theorem PathRel.seg {l : List UInt8} {n a k : Nat} (h : PathRel l n a k) (hl : l.length = n) (hk : k < n) (hc : l[k]? = some 47) : scan [] l = (okSeg (segL l a k) && scan [] (l.drop (k + 1))) := by
  obtain ⟨_, e⟩ := h.go (by omega)
  have hg : l[k]'(by omega) = 47 := by rw [List.getElem?_eq_getElem (by omega)] at hc; exact Option.some.inj hc
  rw [← e, List.drop_eq_getElem_cons (by omega : k < l.length), hg, scan_slash]
theorem PathRel.slash {l : List UInt8} {n a k : Nat} (h : PathRel l n a k) (hl : l.length = n) (hk : k < n) (hc : l[k]? = some 47) (hb : okSeg (segL l a k) = true) : PathRel l n (k + 1) (k + 1) := by
  have e := h.seg hl hk hc
  rw [hb, Bool.true_and] at e
  exact ⟨by omega, fun _ => ⟨Nat.le_refl _, by rw [seg_self, e]⟩, fun hh => by omega⟩
theorem PathRel.last {l : List UInt8} {n a : Nat} (h : PathRel l n a n) (hl : l.length = n) : scan [] l = okSeg (segL l a n) := by
  obtain ⟨_, e⟩ := h.go (by omega)
  rw [← e, List.drop_of_length_le (by omega)]
  rfl
theorem PathRel.done {l : List UInt8} {n a b : Nat} (h : PathRel l n a n) (hl : l.length = n) (hb : okSeg (segL l a n) = true) : PathRel l n b (n + 1) :=
  ⟨Nat.le_refl _, fun hh => by omega, fun _ => by rw [h.last hl, hb]⟩
/-- What a name must not be, as the walk asks it. -/
structure SegCmp (s : ByteArray) (a b c : Bool) : Prop where
  a1 : (s.toList == []) = a
  a2 : s.toList.isEmpty = a
  b1 : (s.toList == [46]) = b
  c1 : (s.toList == [46, 46]) = c
theorem seg_cmp (s : ByteArray) : SegCmp s (s.data.toList == []) (s.data.toList == [46]) (s.data.toList == [46, 46]) := by
  refine ⟨by rw [ByteArray.toList_eq], ?_, by rw [ByteArray.toList_eq], by rw [ByteArray.toList_eq]⟩
  rw [ByteArray.toList_eq]
  cases s.data.toList <;> rfl
theorem okSeg_of (l : List UInt8) {a b c : Bool} (ha : (l == []) = a) (hb : (l == [46]) = b) (hc : (l == [46, 46]) = c) : okSeg l = !((a || b) || c) := by subst ha hb hc; rfl
theorem at_list (p : ByteArray) (k : Nat) (h : k < p.size) : p.data.toList[k]? = some p[k] := by
  rw [List.getElem?_eq_getElem (by rw [str_len]; exact h)]
  rfl
end Go.Proofs.YtknmmlfdlfioiaaGreatDoor.Vc
namespace Go.Proofs.YtknmmlfdlfioiaaGreatDoor.Vc
open Go.RowKit Go.Shelf
theorem strange_of {x : Nat} {a b d e f g h : Bool} (H : Cmp (x : Int) a b d e f g h) : strange x = !(((((a && b) || (d && e)) || f) || g) || h) := by
  obtain ⟨h1, h2, h3, h4, h5, h6, h7⟩ := H
  subst h1 h2 h3 h4 h5 h6 h7
  unfold strange
  have e1 : ∀ n : Nat, ((x : Int) == (n : Int)) = decide (x = n) := by intro n; by_cases hh : x = n <;> simp [hh] <;> omega
  have e46 := e1 46
  have e45 := e1 45
  have e95 := e1 95
  simp only [Int.cast_ofNat_Int] at e46 e45 e95
  rw [e46, e45, e95]
  congr 1
  congr 1
  congr 1
  congr 1
  congr 1
  · congr 1 <;> (apply decide_eq_decide.2; omega)
  · congr 1 <;> (apply decide_eq_decide.2; omega)
set_option maxHeartbeats 800000 in
theorem strange_any (x : Nat) (w : World) : Calls Tryz.prog 100 #[.int .i32 (x : Int)] w fun e w' => e = .returned (.bool (strange x)) ∧ w' = w := by
  rcases cmp_cases (x : Int) with H | H | H | H | H | H | H | H
  all_goals (have HB := hideIt (strange_of H); obtain ⟨q1, q2, q3, q4, q5, q6, q7⟩ := H; have s5 : ((x : Int) != 46) = !((x : Int) == 46) := rfl; have s6 : ((x : Int) != 45) = !((x : Int) == 45) := rfl; have s7 : ((x : Int) != 95) = !((x : Int) == 95) := rfl; rw [q5] at s5; rw [q6] at s6; rw [q7] at s7; simp only [Bool.not_false, Bool.not_true] at s5 s6 s7)
  all_goals go_enter Tryz.func100, Tryz.ntmps100
  all_goals go_wp2
  all_goals go_ret
  all_goals exact ⟨by rw [HB.out]; rfl, rfl⟩
theorem strange_pays (w : World) : PredGrows Tryz.prog 100 #[] strange w := fun W x _ _ =>
  (strange_any x W).mono fun _ _ ⟨h1, h2⟩ => ⟨h1, h2 ▸ Below.refl _ _⟩
theorem strange_enters : ∀ args w, (callFunc 100 args).run Tryz.prog w = .ok (.enter 100 args) w := enters_of Tryz.func100 (by kernel_rfl) rfl
theorem contains_any (s : ByteArray) (w : World) : Calls Tryz.prog 102 #[.string s, .func (.func 100) #[] #[]] w fun e w' => e = .returned (.bool (!(s.data.toList.all okB))) ∧ Below w.heap.size w w' := by
  have h := Tryz.strings_ContainsFunc_grows 100 #[] strange_enters strange s w (strange_pays w)
  rw [contains_strange] at h
  exact h
/-- The one word of the library's that a cut of texts reads is a number. -/
def MaxAt (w : World) : Prop := ∃ m, w.cell? ⟨1, 0, none⟩ = some (.int .i64 m)
theorem MaxAt.pos {w : World} (h : MaxAt w) : 1 < w.heap.size := by
  obtain ⟨m, h⟩ := h
  by_cases hz : 1 < w.heap.size
  · exact hz
  · have : w.heap[1]? = none := Array.getElem?_eq_none (by omega)
    simp [World.cell?, this] at h
theorem MaxAt.keep {w w' : World} (h : MaxAt w) (hb : w'.heap[1]? = w.heap[1]?) : MaxAt w' := by
  obtain ⟨m, h⟩ := h
  exact ⟨m, by rw [World.cell?_of_block (w := w) hb, h]⟩
theorem MaxAt.below {w w' : World} (h : MaxAt w) (hb : Below w.heap.size w w') : MaxAt w' := h.keep (hb.block _ h.pos)
theorem pieces_len (p : ByteArray) : (pieces p).length = Lib.countB p ⟨#[47]⟩ + 1 := Lib.splitB_all ⟨#[47]⟩ (by decide) 0 _ p rfl
theorem take_all_next {α : Type} (f : α → Bool) (l : List α) (k : Nat) (h : k < l.length) : (l.take (k + 1)).all f = ((l.take k).all f && f l[k]) := by
  rw [List.take_add_one, List.getElem?_eq_getElem h, List.all_append]
  simp only [Option.toList, List.all_cons, List.all_nil, Bool.and_true]
theorem all_false {α : Type} (f : α → Bool) (l : List α) (k : Nat) (h : k < l.length) (hf : f l[k] = false) : l.all f = false := by
  rw [List.all_eq_false]
  exact ⟨l[k], List.getElem_mem h, by simp [hf]⟩
set_option maxHeartbeats 1600000 in
set_option maxRecDepth 100000 in
theorem path_any (p : ByteArray) (w : World) (hm : MaxAt w) (hs : p.size ≤ 140737488355328) :
    Calls Tryz.prog 79 #[.string p] w fun e w' => e = .returned (.bool (pathL p.data.toList)) ∧ Below w.heap.size w w' := by
  obtain ⟨n, hn⟩ : ∃ n, p.size = n := ⟨_, rfl⟩
  have hl : p.data.toList.length = n := by rw [str_len, hn]
  have hni : (p.size : Int) = (n : Int) := by rw [hn]
  by_cases h200 : n ≤ 200
  · have c1 : ¬ (200 : Int) < (n : Int) := by omega
    have c2 : decide ((200 : Int) < (n : Int)) = false := decide_eq_false c1
    obtain ⟨m, hmm⟩ := hm
    have CS := hideIt (Tryz.strings_Split p ⟨#[47]⟩ m w (by omega) hmm (by decide))
    obtain ⟨q, hq⟩ : ∃ q, Lib.countB p ⟨#[47]⟩ = q := ⟨_, rfl⟩
    have hpl := pieces_len p
    have hpa := pieces_all p
    have HQ : q ≤ n := by have := Lib.countB_le ⟨#[47]⟩ (by decide) p.size p (Nat.le_refl _); omega
    have ep : Lib.splitB ⟨#[47]⟩ 0 (Lib.countB p ⟨#[47]⟩) p = pieces p := rfl
    rw [ep, hq] at CS
    rw [hq] at hpl
    obtain ⟨l, hll⟩ : ∃ l, pieces p = l := ⟨_, rfl⟩
    rw [hll] at CS hpl hpa
    obtain ⟨w1, hw1⟩ : ∃ w1, w.alloc (.cells (l.map Value.string).toArray 9) = w1 := ⟨_, rfl⟩
    rw [hw1] at CS
    have hb1 : Below w.heap.size w w1 := by rw [← hw1]; exact (Below.refl _ _).alloc (Nat.le_refl _) _
    have hrow : w1.heap[w.heap.size]? = some (.cells (l.map Value.string).toArray 9) := by rw [← hw1]; exact alloc_at rfl
    have hsz1 : w1.heap.size = w.heap.size + 1 := by rw [← hw1]; simp
    clear hw1 hq ep hll hmm
    obtain ⟨N, hN⟩ : ∃ N, w.heap.size = N := ⟨_, rfl⟩
    rw [hN] at CS hrow hsz1
    have HP := hideIt (show pathL p.data.toList = scan [] p.data.toList by rw [pathL, hl]; simp [h200])
    have hqi : (q : Int) + 1 = ((q + 1 : Nat) : Int) := by omega
    obtain ⟨Q, hQ⟩ : ∃ Q, q + 1 = Q := ⟨_, rfl⟩
    rw [hQ] at CS hpl hqi
    go_enter Tryz.func79, Tryz.ntmps79
    go_wp2_with (first | (go_at_call 101; refine CS.out.mono ?_; rintro e w2 ⟨rfl, rfl⟩))
    go_loopw [12] (fun t wr => ∃ k : Nat, t = .int .i64 k ∧ k ≤ Q ∧ (l.take k).all (fun s => okName s.data.toList) = true ∧ Below w2.heap.size w2 wr) (fun t _ => Q - (intOf t).toNat)
    case atStart => exact ⟨0, rfl, by omega, by simp, Below.refl _ _⟩
    case round =>
      obtain ⟨k, rfl, hk, hall, hbr⟩ := hrel
      by_cases hlt : k < Q
      · have d1 : decide ((k : Int) < (Q : Int)) = true := by simp; omega
        have hkl : k < l.length := by omega
        obtain ⟨s, hse⟩ : ∃ s, l[k] = s := ⟨_, rfl⟩
        have hcell : wr.cell? ⟨N, k, none⟩ = some (.string s) := by
          rw [hbr.cell (p := ⟨N, k, none⟩) (by simp; omega)]
          simp [World.cell?, hrow, hkl, hse]
        have b0 : (0 : Int) ≤ (k : Int) := by omega
        have b1 : (k : Int) < (Q : Int) := by omega
        obtain ⟨e1, e2, e3, e4⟩ := seg_cmp s
        have HS := hideIt (okSeg_of s.data.toList (rfl) (rfl) (rfl))
        have HC := hideIt (contains_any s)
        have HT := hideIt (take_all_next (fun s : ByteArray => okName s.data.toList) l k hkl)
        have HF := hideIt (all_false (fun s : ByteArray => okName s.data.toList) l k hkl)
        have HA := hideIt hpa
        have HL := hideIt hall
        have HO : Hid (okName s.data.toList = (okSeg s.data.toList && s.data.toList.all okB)) := hideIt rfl
        rw [hse] at HT HF
        have HB := hideIt hbr
        have HB1 := hideIt hb1
        generalize (s.data.toList == []) = x1 at *
        generalize (s.data.toList == [46]) = x2 at *
        generalize (s.data.toList == [46, 46]) = x3 at *
        generalize s.data.toList.all okB = x4 at *
        clear hse hall hpa hbr hrow hb1
        cases x1 <;> cases x2 <;> cases x3
        all_goals first
          | (go_wp2; go_ret; exact ⟨by rw [HP.out, ← HA.out, HF.out (by rw [HO.out, HS.out]; simp)]; try rfl, below2 HB1.out HB.out⟩)
          | cases x4
        · go_wp2_with (first | (go_at_call 102; refine (HC.out _).mono ?_; rintro e w3 ⟨rfl, hb3⟩))
          go_ret
          exact ⟨by rw [HP.out, ← HA.out, HF.out (by rw [HO.out]; simp)]; try rfl, below2 (below2 HB1.out HB.out) hb3⟩
        · go_wp2_with (first | (go_at_call 102; refine (HC.out _).mono ?_; rintro e w3 ⟨rfl, hb3⟩))
          go_roundw
          case rel => exact ⟨k + 1, by go_num, by omega, by rw [HT.out, HL.out, HO.out, HS.out]; rfl, below2 HB.out hb3⟩
          case measure => simp [intOf]; omega
      · have d1 : decide ((k : Int) < (Q : Int)) = false := by simp; omega
        have HL : Hid (l.all (fun s => okName s.data.toList) = true) := hideIt (by rw [List.take_of_length_le (by omega)] at hall; exact hall)
        have HA := hideIt hpa
        have HB := hideIt hbr
        have HB1 := hideIt hb1
        clear hall hpa hbr hb1
        go_wp2
        go_ret
        exact ⟨by rw [HP.out, ← HA.out, HL.out]; try rfl, below2 HB1.out HB.out⟩
  · have c1 : (200 : Int) < (n : Int) := by omega
    have c2 : decide ((200 : Int) < (n : Int)) = true := decide_eq_true c1
    go_enter Tryz.func79, Tryz.ntmps79
    go_wp2
    go_ret
    exact ⟨by rw [pathL, hl]; simp [h200], Below.refl _ _⟩
end Go.Proofs.YtknmmlfdlfioiaaGreatDoor.Vc
namespace Go.Proofs.YtknmmlfdlfioiaaGreatDoor.Vc
open Go.RowKit Go.Shelf Go.Maps Go.WideMaps
/-- The cells of the whole. -/
def fsv (now sure done unsure : Value) (came used room steps : Int) (plan : Value) (dead : Bool) : Array Value :=
  #[now, sure, done, unsure, .int .i64 came, .int .i64 used, .int .i64 room, .int .i64 steps, plan, .bool dead]
/-- The cells of a file. -/
def filev (number : Int) (now sure : ByteArray) (links : Int) : Array Value := #[.int .i64 number, .string now, .string sure, .int .i64 links]
theorem cellAt {w : World} {b i : Nat} {arr : Array Value} {t : TypeId} {v : Value} (h : w.heap[b]? = some (.cells arr t (0, 0))) (hi : arr[i]? = some v) : w.cell? ⟨b, i, none⟩ = some v := by simp [World.cell?, h, hi]
theorem thawAt {w : World} {b : Nat} {arr : Array Value} {t : TypeId} (h : w.heap[b]? = some (.cells arr t (0, 0))) (i : Nat) : w.frozen? ⟨b, i, none⟩ = false := by simp [World.frozen?, h]
theorem block_lt {w : World} {b : Nat} {o : Obj} (h : w.heap[b]? = some o) : b < w.heap.size := by
  by_cases hb : b < w.heap.size
  · exact hb
  · rw [Array.getElem?_eq_none (by omega)] at h; cases h
theorem heap_drew1 (w : World) : w.drew.heap = w.heap := rfl
/-- How an element that is an address is told: by itself. -/
def anyE (v : Value) : Option (DataW Value × List MemPlace) := some (.held v, [])
theorem kS : Keyed Tryz.prog 9 := string_keyed Tryz.underlying9
theorem kI : Keyed Tryz.prog 3 := int_keyed Tryz.underlying3
theorem zeroP (w : World) : (zeroValue 67).run Tryz.prog w = .ok (.pointer none) w := by kernel_rfl
abbrev NMap (w : World) (b n : Nat) (D : DataW Value) : Prop := w.ownsMap Tryz.prog 9 anyE b n D
abbrev UMap (w : World) (b n : Nat) (D : DataW Value) : Prop := w.ownsMap Tryz.prog 3 anyE b n D
def valOf : DataW Value → Value
  | .held v => v
  | _ => .pointer none
def key (p : ByteArray) : Lit := .string p.data.toList
def valAt (D : DataW Value) (k : Lit) : Value := valOf (D.atKey k (.held (.pointer none)))
theorem keyS (p : ByteArray) (h : p.size ≤ maxLen) : keyOf Tryz.prog 9 (.string p) = some (key p) := keyOf_string_mk Tryz.underlying9 h
theorem look_ok {w : World} {b n : Nat} {D : DataW Value} (h : NMap w b n D) (p : ByteArray) (hp : p.size ≤ maxLen) :
    (Instr.lookup 50 (.map (some b)) (.string p) true).run Tryz.prog w = .ok (.tuple #[valAt D (key p), .bool (Maps.has D (key p))]) w := by
  obtain ⟨v, ps, hrun, hv⟩ := h.look_ok (t := 50) (zd := .held (.pointer none)) (zp := []) kS Tryz.underlying50 (zeroP w) rfl (keyS p hp)
  simp only [anyE, Option.some.injEq, Prod.mk.injEq] at hv
  rw [hrun, valAt, ← hv.1]
  rfl
theorem look_at {w : World} {b n : Nat} {D : DataW Value} (h : NMap w b n D) (p : ByteArray) (hp : p.size ≤ maxLen) :
    (Instr.lookup 50 (.map (some b)) (.string p) false).run Tryz.prog w = .ok (valAt D (key p)) w := by
  obtain ⟨v, ps, hrun, hv⟩ := h.lookup (t := 50) (zd := .held (.pointer none)) (zp := []) kS Tryz.underlying50 (zeroP w) rfl (keyS p hp)
  simp only [anyE, Option.some.injEq, Prod.mk.injEq] at hv
  rw [hrun, valAt, ← hv.1]
  rfl
theorem look_nil_ok (w : World) (p : ByteArray) (hp : p.size ≤ maxLen) : (Instr.lookup 50 (.map none) (.string p) true).run Tryz.prog w = .ok (.tuple #[.pointer none, .bool false]) w :=
  Maps.look_nil true kS Tryz.underlying50 (zeroP w) (keyS p hp)
theorem look_nil_at (w : World) (p : ByteArray) (hp : p.size ≤ maxLen) : (Instr.lookup 50 (.map none) (.string p) false).run Tryz.prog w = .ok (.pointer none) w :=
  Maps.look_nil false kS Tryz.underlying50 (zeroP w) (keyS p hp)
/-- The folder in which a path stands. -/
def dirOf (p : ByteArray) : ByteArray := p.extract 0 (max (Lib.lastIndexByte p 47) 0).toNat
set_option maxHeartbeats 400000 in
theorem folderOf_any (p : ByteArray) (w : World) (hs : p.size ≤ 140737488355328) : Calls Tryz.prog 47 #[.string p] w fun e w' => e = .returned (.string (dirOf p)) ∧ w' = w := by
  have HL := hideIt (Tryz.strings_LastIndexByte p 47 (by omega))
  have hr : Lib.lastIndexByte p 47 < (p.size : Int) := by rcases Lib.lastIndexByte_spec p 47 with h | ⟨i, h1, h2, _⟩ <;> omega
  obtain ⟨i, hi⟩ : ∃ i, Lib.lastIndexByte p 47 = i := ⟨_, rfl⟩
  have hd : dirOf p = p.extract 0 (max i 0).toNat := by rw [dirOf, hi]
  rw [hi] at HL hr
  obtain ⟨j, hj⟩ : ∃ j : Nat, max i 0 = (j : Int) := ⟨(max i 0).toNat, by omega⟩
  rw [hj, Int.toNat_natCast] at hd
  rw [hd]
  have b0 : (0 : Int) ≤ (j : Int) := by omega
  have b1 : (j : Int) ≤ (p.size : Int) := by omega
  clear hi hd hr
  go_enter Tryz.func47, Tryz.ntmps47
  go_wp2_with (first | (go_at_call 75; refine (HL.out _).mono ?_; rintro e w1 ⟨rfl, rfl⟩))
  go_ret
  exact ⟨rfl, rfl⟩
set_option maxHeartbeats 400000 in
theorem dead_any {w : World} {fb : Nat} {now sure done unsure plan : Value} {came used room steps : Int} {dead : Bool} (h : w.heap[fb]? = some (.cells (fsv now sure done unsure came used room steps plan dead) 54 (0, 0))) :
    Calls Tryz.prog 8 #[.pointer (some ⟨fb, 0, none⟩)] w fun e w' => e = .returned (.bool dead) ∧ w' = w := by
  have c9 := cellAt (i := 9) h rfl
  clear h
  go_enter Tryz.func8, Tryz.ntmps8
  go_wp2
  go_ret
  exact ⟨rfl, rfl⟩
set_option maxHeartbeats 400000 in
theorem new_any (room : Nat) (w : World) : Calls Tryz.prog 16 #[.int .i64 (room : Int)] w fun e w' => e = .returned (.tuple #[.pointer (some ⟨w.heap.size, 0, none⟩), .int .i64 0]) ∧
    w' = w.alloc (.cells (fsv (.map none) (.map none) (.slice none 0 0) (.map none) 0 0 room 0 (.slice none 0 0) false) 54) := by
  have c1 : ¬ (room : Int) < 0 := by omega
  have c2 : decide ((room : Int) < 0) = false := decide_eq_false c1
  go_enter Tryz.func16, Tryz.ntmps16
  go_wp2
  go_ret2
  exact ⟨rfl, rfl⟩
end Go.Proofs.YtknmmlfdlfioiaaGreatDoor.Vc
namespace Go.Proofs.YtknmmlfdlfioiaaGreatDoor.Vc
open Go.RowKit Go.Shelf Go.Maps
variable {pl : Value}
abbrev FsAt (w : World) (fb : Nat) (now sure done unsure : Value) (came used room steps : Int) (dead : Bool) (pl : Value := .slice none 0 0) : Prop :=
  w.heap[fb]? = some (.cells (fsv now sure done unsure came used room steps pl dead) 54 (0, 0))
section
variable {w : World} {fb : Nat} {now sure done unsure : Value} {came used room steps : Int} {dead : Bool}
theorem fs0 (h : FsAt w fb now sure done unsure came used room steps dead pl) : w.cell? ⟨fb, 0, none⟩ = some now := cellAt h rfl
theorem fs1 (h : FsAt w fb now sure done unsure came used room steps dead pl) : w.cell? ⟨fb, 1, none⟩ = some sure := cellAt h rfl
theorem fs2 (h : FsAt w fb now sure done unsure came used room steps dead pl) : w.cell? ⟨fb, 2, none⟩ = some done := cellAt h rfl
theorem fs3 (h : FsAt w fb now sure done unsure came used room steps dead pl) : w.cell? ⟨fb, 3, none⟩ = some unsure := cellAt h rfl
theorem fs4 (h : FsAt w fb now sure done unsure came used room steps dead pl) : w.cell? ⟨fb, 4, none⟩ = some (.int .i64 came) := cellAt h rfl
theorem fs5 (h : FsAt w fb now sure done unsure came used room steps dead pl) : w.cell? ⟨fb, 5, none⟩ = some (.int .i64 used) := cellAt h rfl
theorem fs6 (h : FsAt w fb now sure done unsure came used room steps dead pl) : w.cell? ⟨fb, 6, none⟩ = some (.int .i64 room) := cellAt h rfl
theorem fs7 (h : FsAt w fb now sure done unsure came used room steps dead pl) : w.cell? ⟨fb, 7, none⟩ = some (.int .i64 steps) := cellAt h rfl
theorem fs8 (h : FsAt w fb now sure done unsure came used room steps dead pl) : w.cell? ⟨fb, 8, none⟩ = some pl := cellAt h rfl
theorem fs9 (h : FsAt w fb now sure done unsure came used room steps dead pl) : w.cell? ⟨fb, 9, none⟩ = some (.bool dead) := cellAt h rfl
end
section
variable {w : World} {xb : Nat} {number links : Int} {now sure : ByteArray}
abbrev FileAt (w : World) (xb : Nat) (number : Int) (now sure : ByteArray) (links : Int) : Prop := w.heap[xb]? = some (.cells (filev number now sure links) 78 (0, 0))
theorem fl0 (h : FileAt w xb number now sure links) : w.cell? ⟨xb, 0, none⟩ = some (.int .i64 number) := cellAt h rfl
theorem fl1 (h : FileAt w xb number now sure links) : w.cell? ⟨xb, 1, none⟩ = some (.string now) := cellAt h rfl
theorem fl2 (h : FileAt w xb number now sure links) : w.cell? ⟨xb, 2, none⟩ = some (.string sure) := cellAt h rfl
theorem fl3 (h : FileAt w xb number now sure links) : w.cell? ⟨xb, 3, none⟩ = some (.int .i64 links) := cellAt h rfl
end
def errPath (p : ByteArray) : Int := if pathL p.data.toList then 0 else 30
set_option maxHeartbeats 800000 in
set_option maxRecDepth 100000 in
theorem hindered_one {w : World} {fb : Nat} {now sure done unsure : Value} {came used room steps : Int} (h : FsAt w fb now sure done unsure came used room steps false pl) (hm : MaxAt w) (p : ByteArray) (hs : p.size ≤ 140737488355328) (sb : Nat) (t : TypeId)
    (hrow : w.heap[sb]? = some (.cells #[.string p] t (0, 0))) :
    Calls Tryz.prog 54 #[.pointer (some ⟨fb, 0, none⟩), .slice (some ⟨sb, 0, none⟩) 1 1] w fun e w' => e = .returned (.int .i64 (errPath p)) ∧ Below w.heap.size w w' := by
  have HD := hideIt (dead_any h)
  have HP := hideIt (path_any p w hm hs)
  have c0 := cellAt (i := 0) hrow rfl
  have HE : Hid (errPath p = if pathL p.data.toList then 0 else 30) := hideIt rfl
  clear h hrow
  generalize pathL p.data.toList = x at HP HE
  cases x
  · go_enter Tryz.func54, Tryz.ntmps54
    go_wp2_with (first | (go_at_call 8; refine HD.out.mono ?_; rintro e w1 ⟨rfl, rfl⟩))
    refine wp_loop_rounds 1 ?_
    rw [rounds_succ]
    go_wp2_with (first | (go_at_call 79; refine HP.out.mono ?_; rintro e w2 ⟨rfl, hb2⟩))
    go_ret
    exact ⟨by rw [HE.out]; rfl, hb2⟩
  · go_enter Tryz.func54, Tryz.ntmps54
    go_wp2_with (first | (go_at_call 8; refine HD.out.mono ?_; rintro e w1 ⟨rfl, rfl⟩))
    refine wp_loop_rounds 2 ?_
    rw [rounds_succ]
    go_wp2_with (first | (go_at_call 79; refine HP.out.mono ?_; rintro e w2 ⟨rfl, hb2⟩))
    rw [rounds_succ]
    go_wp2
    go_ret
    exact ⟨by rw [HE.out]; rfl, hb2⟩
set_option maxHeartbeats 800000 in
theorem hindered_none {w : World} {fb : Nat} {now sure done unsure : Value} {came used room steps : Int} (h : FsAt w fb now sure done unsure came used room steps false pl) :
    Calls Tryz.prog 54 #[.pointer (some ⟨fb, 0, none⟩), .slice none 0 0] w fun e w' => e = .returned (.int .i64 0) ∧ w' = w := by
  have HD := hideIt (dead_any h)
  clear h
  go_enter Tryz.func54, Tryz.ntmps54
  go_wp2_with (first | (go_at_call 8; refine HD.out.mono ?_; rintro e w1 ⟨rfl, rfl⟩))
  refine wp_loop_rounds 1 ?_
  rw [rounds_succ]
  go_wp2
  go_ret
  exact ⟨rfl, rfl⟩
set_option maxHeartbeats 400000 in
theorem folder_root {w : World} {m : Value} (hm : m = .map none ∨ ∃ b n D, m = .map (some b) ∧ NMap w b n D) :
    Calls Tryz.prog 46 #[m, .string ⟨#[]⟩] w fun e w' => e = .returned (.bool true) ∧ w' = w := by
  rcases hm with rfl | ⟨b, n, D, rfl, h⟩
  · have hl := look_nil_ok w ⟨#[]⟩ (by decide)
    go_enter Tryz.func46, Tryz.ntmps46
    go_wp2
    go_ret
    exact ⟨rfl, rfl⟩
  · have hl := look_ok h ⟨#[]⟩ (by decide)
    generalize valAt D (key ⟨#[]⟩) = v at hl
    generalize Maps.has D (key ⟨#[]⟩) = y at hl
    clear h
    go_enter Tryz.func46, Tryz.ntmps46
    go_wp2
    go_ret
    exact ⟨rfl, rfl⟩
set_option maxHeartbeats 400000 in
theorem folder_none {w : World} (p : ByteArray) (hp : p.size ≤ 140737488355328) (h0 : p.data.toList ≠ []) :
    Calls Tryz.prog 46 #[.map none, .string p] w fun e w' => e = .returned (.bool false) ∧ w' = w := by
  have hl := look_nil_ok w p (by unfold maxLen; omega)
  have e1 : (p.toList == []) = false := by rw [ByteArray.toList_eq]; simpa using h0
  have e2 : p.toList.isEmpty = false := by rw [ByteArray.toList_eq]; simpa using h0
  go_enter Tryz.func46, Tryz.ntmps46
  go_wp2
  go_ret
  exact ⟨rfl, rfl⟩
set_option maxHeartbeats 400000 in
theorem folder_gone {w : World} {b n : Nat} {D : DataW Value} (h : NMap w b n D) (p : ByteArray) (hp : p.size ≤ 140737488355328) (h0 : p.data.toList ≠ []) (hh : Maps.has D (key p) = false) :
    Calls Tryz.prog 46 #[.map (some b), .string p] w fun e w' => e = .returned (.bool false) ∧ w' = w := by
  have hl := look_ok h p (by unfold maxLen; omega)
  have e1 : (p.toList == []) = false := by rw [ByteArray.toList_eq]; simpa using h0
  have e2 : p.toList.isEmpty = false := by rw [ByteArray.toList_eq]; simpa using h0
  rw [hh] at hl
  generalize valAt D (key p) = v at hl
  clear h hh
  go_enter Tryz.func46, Tryz.ntmps46
  go_wp2
  go_ret
  exact ⟨rfl, rfl⟩
set_option maxHeartbeats 400000 in
set_option maxRecDepth 100000 in
theorem file_there {w : World} {fb b n xb : Nat} {D : DataW Value} {sure done unsure : Value} {came used room steps : Int} {dead : Bool} (h : FsAt w fb (.map (some b)) sure done unsure came used room steps dead pl) (hm : NMap w b n D) (p : ByteArray) (hp : p.size ≤ 140737488355328)
    (hh : Maps.has D (key p) = true) (hv : valAt D (key p) = .pointer (some ⟨xb, 0, none⟩)) :
    Calls Tryz.prog 55 #[.pointer (some ⟨fb, 0, none⟩), .string p] w fun e w' => e = .returned (.tuple #[.pointer (some ⟨xb, 0, none⟩), .int .i64 0]) ∧ w' = w := by
  have hl := look_ok hm p (by unfold maxLen; omega)
  have c0 := fs0 h
  rw [hh, hv] at hl
  clear h hm hh hv
  go_enter Tryz.func55, Tryz.ntmps55
  go_wp2
  go_ret2
  exact ⟨rfl, rfl⟩
set_option maxHeartbeats 400000 in
set_option maxRecDepth 100000 in
theorem file_gone {w : World} {fb b n : Nat} {D : DataW Value} {sure done unsure : Value} {came used room steps : Int} {dead : Bool} (h : FsAt w fb (.map (some b)) sure done unsure came used room steps dead pl) (hm : NMap w b n D) (p : ByteArray) (hp : p.size ≤ 140737488355328)
    (hh : Maps.has D (key p) = false) :
    Calls Tryz.prog 55 #[.pointer (some ⟨fb, 0, none⟩), .string p] w fun e w' => e = .returned (.tuple #[.pointer none, .int .i64 2]) ∧ w' = w := by
  have hl := look_ok hm p (by unfold maxLen; omega)
  have c0 := fs0 h
  rw [hh] at hl
  generalize valAt D (key p) = v at hl
  clear h hm hh
  go_enter Tryz.func55, Tryz.ntmps55
  go_wp2
  go_ret2
  exact ⟨rfl, rfl⟩
end Go.Proofs.YtknmmlfdlfioiaaGreatDoor.Vc
namespace Go.Proofs.YtknmmlfdlfioiaaGreatDoor.Vc
open Go.RowKit Go.Shelf Go.Maps
/-- But for some blocks, the world is as it was. -/
structure Kept (bs : List Nat) (w w' : World) : Prop where
  os : w'.os = w.os
  tape : w'.tape = w.tape
  output : w'.output = w.output
  size : w.heap.size ≤ w'.heap.size
  block : ∀ k, k < w.heap.size → k ∉ bs → w'.heap[k]? = w.heap[k]?
theorem map_eq_nil (w : World) : (binOp BinOp.eql 50 (.map none) (.map none)).run Tryz.prog w = .ok (.bool true) w := by kernel_rfl
theorem map_ne_nil (b : Nat) (w : World) : (binOp BinOp.eql 50 (.map (some b)) (.map none)).run Tryz.prog w = .ok (.bool false) w := by kernel_rfl
theorem Kept.set {w : World} (b i : Nat) (v : Value) : Kept [b] w (w.setCell ⟨b, i, none⟩ v) :=
  ⟨rfl, rfl, rfl, by simp [World.setCell], fun k _ hk => Below.heap_setCell _ _ _ _ (by simpa using hk)⟩
theorem Kept.drew {bs : List Nat} {w w' : World} (h : Kept bs w w') : Kept bs w w'.drew := ⟨h.os, h.tape, h.output, h.size, h.block⟩
/-- No fall strikes at the next step: none is planned, or the first one is planned for later. -/
def Calm (pl : Value) (w : World) (s : Nat) : Prop := (∃ a c, pl = .slice a 0 c) ∨ ∃ (g o m c t : Nat), pl = .slice (some ⟨g, o, none⟩) m c ∧ 0 < m ∧ m < 1000000 ∧ w.cell? ⟨g, o, none⟩ = some (.int .i64 (t : Int)) ∧ g < w.heap.size ∧ s < t
theorem calm_nil (w : World) (s : Nat) : Calm (.slice none 0 0) w s := .inl ⟨_, _, rfl⟩
set_option maxHeartbeats 800000 in
set_option maxRecDepth 100000 in
theorem step_old {w : World} {fb b : Nat} {sure done unsure : Value} {came used room : Int} {pl : Value} (s : Nat) (hs : s < 1000000) (h : FsAt w fb (.map (some b)) sure done unsure came used room s false pl) (hc : Calm pl w s) :
    Calls Tryz.prog 64 #[.pointer (some ⟨fb, 0, none⟩)] w fun e w' => e = .returned (.int .i64 0) ∧ FsAt w' fb (.map (some b)) sure done unsure came used room ((s : Int) + 1) false pl ∧ Kept [fb] w w' := by
  have c0 := fs0 h
  have c8 := fs8 h
  have c7 := fs7 h
  have f7 := thawAt h 7
  have hme := map_ne_nil b
  have hw1 : IntKind.i64.wrap ((s : Int) + 1) = (s : Int) + 1 := by rw [IntKind.wrap_i64]; omega
  have HR : Hid (FsAt (w.setCell ⟨fb, 7, none⟩ (.int .i64 ((s : Int) + 1))) fb (.map (some b)) sure done unsure came used room ((s : Int) + 1) false pl) := hideIt (by
    unfold FsAt
    rw [heap_setCell_same w fb 7 _ 54 _ h]
    rfl)
  clear h
  rcases hc with ⟨pa, pc, rfl⟩ | ⟨g, o, m, pc, t, rfl, hm0, hm1, ct, -, hst⟩
  · go_enter Tryz.func64, Tryz.ntmps64
    go_wp2
    refine wp_loop_rounds 1 ?_
    rw [rounds_succ]
    go_wp2
    go_region
    go_wp2
    go_ret
    exact ⟨rfl, HR.out, (Kept.set _ _ _).drew⟩
  · have d1 : decide ((0 : Int) < (m : Int)) = true := decide_eq_true (by omega)
    have d2 : (0 : Int) < (m : Int) := by omega
    have d3 : decide ((t : Int) ≤ (s : Int)) = false := decide_eq_false (by omega)
    have d4 : ¬ (t : Int) ≤ (s : Int) := by omega
    clear hst
    go_enter Tryz.func64, Tryz.ntmps64
    go_wp2
    refine wp_loop_rounds 1 ?_
    rw [rounds_succ]
    go_wp2
    go_region
    go_wp2
    go_ret
    exact ⟨rfl, HR.out, (Kept.set _ _ _).drew⟩
theorem made_three (w : World) : ∃ W1 W2 W3 : World, (∀ t, (Instr.makeMap t none).run Tryz.prog w = .ok (.map (some w.heap.size)) W1) ∧ (∀ t, (Instr.makeMap t none).run Tryz.prog W1 = .ok (.map (some (w.heap.size + 1))) W2) ∧ (∀ t, (Instr.makeMap t none).run Tryz.prog W2 = .ok (.map (some (w.heap.size + 2))) W3) ∧
    Kept [] w W3 ∧ NMap W3 w.heap.size 0 (.map []) ∧ NMap W3 (w.heap.size + 1) 0 (.map []) ∧ UMap W3 (w.heap.size + 2) 0 (.map []) ∧ W3.heap.size = w.heap.size + 3 := by
  refine ⟨w.alloc (.map #[] 0), (w.alloc (.map #[] 0)).alloc (.map #[] 0), ((w.alloc (.map #[] 0)).alloc (.map #[] 0)).alloc (.map #[] 0), fun t => rfl, fun t => ?_, fun t => ?_, ⟨rfl, rfl, rfl, by simp; omega, fun k hk _ => ?_⟩, ?_, ?_, ?_, by simp⟩
  · rw [run_makeMap]; simp
  · rw [run_makeMap]; simp
  · rw [Below.heap_alloc _ _ _ (by simp; omega), Below.heap_alloc _ _ _ (by simp; omega), Below.heap_alloc _ _ _ hk]
  · exact ((World.ownsMap_made w _ _ _).alloc _).alloc _
  · have := (World.ownsMap_made (w.alloc (.map #[] 0)) Tryz.prog 9 anyE).alloc (.map #[] 0)
    simpa using this
  · have := World.ownsMap_made ((w.alloc (.map #[] 0)).alloc (.map #[] 0)) Tryz.prog 3 anyE
    simpa using this
theorem Kept.trans {bs cs : List Nat} {a b c : World} (h : Kept bs a b) (k : Kept cs b c) : Kept (bs ++ cs) a c :=
  ⟨k.os.trans h.os, k.tape.trans h.tape, k.output.trans h.output, Nat.le_trans h.size k.size, fun i hi hn => by
    rw [List.mem_append] at hn
    rw [k.block i (Nat.lt_of_lt_of_le hi h.size) (fun e => hn (.inr e)), h.block i hi (fun e => hn (.inl e))]⟩
theorem Kept.sub {bs cs : List Nat} {a b : World} (h : Kept bs a b) (hs : ∀ x ∈ bs, x ∈ cs) : Kept cs a b := ⟨h.os, h.tape, h.output, h.size, fun k hk hn => h.block k hk (fun e => hn (hs k e))⟩
theorem Kept.of_below {a b : World} (h : Below a.heap.size a b) : Kept [] a b := ⟨h.os, h.tape, h.output, h.size, fun k hk _ => h.block k hk⟩
theorem Kept.refl (bs : List Nat) (a : World) : Kept bs a a := ⟨rfl, rfl, rfl, Nat.le_refl _, fun _ _ _ => rfl⟩
theorem Kept.fs {bs : List Nat} {w w' : World} {b : Nat} {o : Obj} (h : Kept bs w w') (ho : w.heap[b]? = some o) (hb : b ∉ bs) : w'.heap[b]? = some o := by rw [h.block b (block_lt ho) hb, ho]
theorem Kept.map {bs : List Nat} {w w' : World} {k : TypeId} {b n : Nat} {D : DataW Value} (h : Kept bs w w') (ho : w.ownsMap Tryz.prog k anyE b n D) (hb : b ∉ bs) : w'.ownsMap Tryz.prog k anyE b n D := by
  obtain ⟨es, c, h1, h2⟩ := ho
  exact ⟨es, c, h.fs h1 hb, h2⟩
theorem Kept.max {bs : List Nat} {w w' : World} (h : Kept bs w w') (hm : MaxAt w) (hb : 1 ∉ bs) : MaxAt w' := hm.keep (h.block _ hm.pos hb)
set_option maxHeartbeats 400000 in
set_option maxRecDepth 100000 in
theorem step_new {w : World} {fb : Nat} {done : Value} {came used room : Int} {pa : Option Addr} {pc : Nat} (s : Nat) (hs : s < 1000000) (h : FsAt w fb (.map none) (.map none) done (.map none) came used room s false (.slice pa 0 pc)) :
    Calls Tryz.prog 64 #[.pointer (some ⟨fb, 0, none⟩)] w fun e w' => e = .returned (.int .i64 0) ∧ FsAt w' fb (.map (some w.heap.size)) (.map (some (w.heap.size + 1))) done (.map (some (w.heap.size + 2))) came used room ((s : Int) + 1) false (.slice pa 0 pc) ∧
      NMap w' w.heap.size 0 (.map []) ∧ NMap w' (w.heap.size + 1) 0 (.map []) ∧ UMap w' (w.heap.size + 2) 0 (.map []) ∧ Kept [fb] w w' := by
  have c0 := fs0 h
  have c8 := fs8 h
  have c7 := fs7 h
  have f7 := thawAt h 7
  have hme := map_eq_nil
  have hw1 : IntKind.i64.wrap ((s : Int) + 1) = (s : Int) + 1 := by rw [IntKind.wrap_i64]; omega
  have hlt := block_lt h
  obtain ⟨W1, W2, W3, m1, m2, m3, hk, n1, n2, n3, hsz⟩ := made_three (w.setCell ⟨fb, 7, none⟩ (.int .i64 ((s : Int) + 1))).drew
  have e0 : ((w.setCell ⟨fb, 7, none⟩ (.int .i64 ((s : Int) + 1))).drew).heap.size = w.heap.size := by simp [World.setCell, World.drew]
  rw [e0] at m1 m2 m3 n1 n2 n3 hsz
  have h0 : FsAt (w.setCell ⟨fb, 7, none⟩ (.int .i64 ((s : Int) + 1))).drew fb (.map none) (.map none) done (.map none) came used room ((s : Int) + 1) false (.slice pa 0 pc) := by
    show (w.setCell ⟨fb, 7, none⟩ (.int .i64 ((s : Int) + 1))).heap[fb]? = _
    rw [heap_setCell_same w fb 7 _ 54 _ h]
    rfl
  have h3 := hk.fs h0 (by simp)
  have g0 := thawAt h3 0
  have g1 := thawAt h3 1
  have g3 := thawAt h3 3
  have k0 := fs0 h3
  have k1 := fs1 h3
  have k3 := fs3 h3
  have HF : Hid (FsAt (((W3.setCell ⟨fb, 0, none⟩ (.map (some w.heap.size))).setCell ⟨fb, 1, none⟩ (.map (some (w.heap.size + 1)))).setCell ⟨fb, 3, none⟩ (.map (some (w.heap.size + 2)))) fb (.map (some w.heap.size)) (.map (some (w.heap.size + 1))) done (.map (some (w.heap.size + 2))) came used room ((s : Int) + 1) false (.slice pa 0 pc)) := hideIt (by
    unfold FsAt
    have a1 := heap_setCell_same W3 fb 0 _ 54 (.map (some w.heap.size)) h3
    have a2 := heap_setCell_same _ fb 1 _ 54 (.map (some (w.heap.size + 1))) a1
    rw [heap_setCell_same _ fb 3 _ 54 _ a2]
    rfl)
  have HK : Hid (Kept [fb] W3 (((W3.setCell ⟨fb, 0, none⟩ (.map (some w.heap.size))).setCell ⟨fb, 1, none⟩ (.map (some (w.heap.size + 1)))).setCell ⟨fb, 3, none⟩ (.map (some (w.heap.size + 2))))) := hideIt
    ((((Kept.set fb 0 _).trans (Kept.set fb 1 _)).trans (Kept.set fb 3 _)).sub (by simp))
  have HA : Hid (Kept [fb] w W3) := hideIt (((Kept.set fb 7 _).drew.trans hk).sub (by simp))
  have HN := hideIt (And.intro n1 (And.intro n2 n3))
  clear h h0 h3 hk n1 n2 n3 hsz e0
  go_enter Tryz.func64, Tryz.ntmps64
  go_wp2
  refine wp_loop_rounds 1 ?_
  rw [rounds_succ]
  go_wp2
  go_region
  go_wp2
  go_ret
  exact ⟨rfl, HF.out, HK.out.map HN.out.1 (by simp; omega), HK.out.map HN.out.2.1 (by simp; omega), HK.out.map HN.out.2.2 (by simp; omega), (HA.out.trans HK.out).sub (by simp)⟩
end Go.Proofs.YtknmmlfdlfioiaaGreatDoor.Vc
namespace Go.Proofs.YtknmmlfdlfioiaaGreatDoor.Vc
open Go.RowKit Go.Shelf Go.Maps
variable {pl : Value}
theorem file_ne_map {w : World} {xb mb n : Nat} {k : TypeId} {D : DataW Value} {arr : Array Value} {t : TypeId} (h : w.heap[xb]? = some (.cells arr t (0, 0))) (hm : w.ownsMap Tryz.prog k anyE mb n D) : xb ≠ mb := by
  intro e
  subst e
  obtain ⟨es, c, h1, _⟩ := hm
  rw [h] at h1
  cases h1
theorem Kept.of_turned {w w' : World} {b : Nat} (h : w.mapTurned w' b) : Kept [b] w w' := by
  have g := h.grown
  exact ⟨g.os, g.tape, g.output, g.size, fun k hk hn => g.block k hk (fun e => hn (by simp [Option.some.inj e]))⟩
theorem keyI (n : Nat) (h : n < 1000000) : keyOf Tryz.prog 3 (.int .i64 (n : Int)) = some (.int .i64 (n : Int)) := keyOf_int_mk Tryz.underlying3 (WalkArith.wf_i64 (by omega))
theorem step_delete_own {ops : Array Oper} {o : Oper} {a : Act} {w : World} {K : Act → World → Prop} {Q : Exit → Act → World → Prop} {E : Prop}
    (hg : o.guard = none) (m x : Operand) (t k : TypeId) (hop : o.op = Op.call { callee := Callee.builtin Builtin.delete, args := #[m, x], argTypes := #[t, k] })
    (e : TypeId) (hk : Keyed Tryz.prog k) (ht : Tryz.prog.underlying t = some (.map k e)) (b n : Nat) (D : DataW Value)
    (hm : a.eval m = .map (some b)) (hown : w.ownsMap Tryz.prog k anyE b n D) (ky : Value) (kl : Lit) (hx : a.eval x = ky) (hkey : keyOf Tryz.prog k ky = some kl)
    (hK : ∀ w', w'.ownsMap Tryz.prog k anyE b n (D.del kl) → w.mapTurned w' b → K (a.put o.dst (.tuple #[])) w') :
    if Region.wanted o (yielded ops a.tmps) = true then Oper.wp Tryz.prog o a w K Q else E := by
  have hw : Region.wanted o (yielded ops a.tmps) = true := by simp [Region.wanted, hg]
  rw [if_pos hw]
  obtain ⟨w', hrun, r1, r2⟩ := hown.drop hk ht hkey o.type
  unfold Oper.wp
  simp [execOp, hop, resolve, invoke, builtin, hm, hx, hrun, Result.andThen]
  exact hK _ r1 r2
section
variable {w : World} {fb xb mb n : Nat} {now sure done : Value} {came used room steps links : Int} {dead : Bool} {num : Nat} {b0 s0 : ByteArray} {D : DataW Value}
theorem laid_file (h : FileAt w xb num b0 s0 links) (a b : ByteArray) : FileAt ((w.setCell ⟨xb, 1, none⟩ (.string a)).setCell ⟨xb, 2, none⟩ (.string b)) xb num a b links := by
  have a1 := heap_setCell_same w xb 1 _ 78 (.string a) h
  unfold FileAt
  rw [heap_setCell_same _ xb 2 _ 78 _ a1]
  rfl
set_option maxHeartbeats 400000 in
set_option maxRecDepth 100000 in
theorem lay_same (h : FsAt w fb now sure done (.map (some mb)) came used room steps dead pl) (hx : FileAt w xb num b0 s0 links) (hm : UMap w mb n D) (hfx : fb ≠ xb) (hn : num < 1000000) (a : ByteArray) :
    Calls Tryz.prog 67 #[.pointer (some ⟨fb, 0, none⟩), .pointer (some ⟨xb, 0, none⟩), .string a, .string a] w fun e w' => e = .returned (.tuple #[]) ∧
      FileAt w' xb num a a links ∧ UMap w' mb n (D.del (.int .i64 num)) ∧ Kept [xb, mb] w w' := by
  have c1 := fl1 hx
  have c2 := fl2 hx
  have g1 := thawAt hx 1
  have g2 := thawAt hx 2
  have hmx := file_ne_map hx hm
  obtain ⟨W, hW⟩ : ∃ W, (w.setCell ⟨xb, 1, none⟩ (.string a)).setCell ⟨xb, 2, none⟩ (.string a) = W := ⟨_, rfl⟩
  have hk : Kept [xb] w W := by rw [← hW]; exact ((Kept.set xb 1 _).trans (Kept.set xb 2 _)).sub (by simp)
  have hf := hk.fs h (by simpa using hfx)
  have hx' : FileAt W xb num a a links := by rw [← hW]; exact laid_file hx a a
  have hm' := hk.map hm (by simpa using fun e => hmx e.symm)
  have d3 := fs3 hf
  have d0 := fl0 hx'
  have q1 : (a.toList == a.toList) = true := by simp
  have HM : Hid (UMap W.drew mb n D) := hideIt hm'.drew
  have HX := hideIt hx'
  have HK := hideIt hk
  have hki := keyI num hn
  clear h hx hm hk hf hx' hm'
  go_enter Tryz.func67, Tryz.ntmps67
  go_wp2
  go_region_law (refine step_delete_own (by rfl) _ _ 52 3 (by rfl) 67 kI Tryz.underlying52 mb n D (by rfl) HM.out _ _ (by rfl) hki ?_; intro w1 hm1 ht1)
  all_goals exact bodyPost_end (results_none Tryz.results67 _ _ _) rfl ⟨rfl, (Kept.of_turned ht1).fs HX.out (by simpa using hmx), hm1, (HK.out.drew.trans (Kept.of_turned ht1)).sub (by simp)⟩
set_option maxHeartbeats 400000 in
set_option maxRecDepth 100000 in
theorem lay_other (h : FsAt w fb now sure done (.map (some mb)) came used room steps dead pl) (hx : FileAt w xb num b0 s0 links) (hm : UMap w mb n D) (hfx : fb ≠ xb) (hn : num < 1000000) (hnn : n < 1000000) (a b : ByteArray) (hab : a.data.toList ≠ b.data.toList) :
    Calls Tryz.prog 67 #[.pointer (some ⟨fb, 0, none⟩), .pointer (some ⟨xb, 0, none⟩), .string a, .string b] w fun e w' => e = .returned (.tuple #[]) ∧
      FileAt w' xb num a b links ∧ UMap w' mb (n + 1) (D.put (.int .i64 num) (.held (.pointer (some ⟨xb, 0, none⟩)))) ∧ Kept [xb, mb] w w' := by
  have c1 := fl1 hx
  have c2 := fl2 hx
  have g1 := thawAt hx 1
  have g2 := thawAt hx 2
  have hmx := file_ne_map hx hm
  obtain ⟨W, hW⟩ : ∃ W, (w.setCell ⟨xb, 1, none⟩ (.string a)).setCell ⟨xb, 2, none⟩ (.string b) = W := ⟨_, rfl⟩
  have hk : Kept [xb] w W := by rw [← hW]; exact ((Kept.set xb 1 _).trans (Kept.set xb 2 _)).sub (by simp)
  have hf := hk.fs h (by simpa using hfx)
  have hx' : FileAt W xb num a b links := by rw [← hW]; exact laid_file hx a b
  have hm' := hk.map hm (by simpa using fun e => hmx e.symm)
  have d3 := fs3 hf
  have d0 := fl0 hx'
  have q1 : (a.toList == b.toList) = false := by rw [ByteArray.toList_eq, ByteArray.toList_eq]; simpa using hab
  have hmd : UMap W.drew mb n D := hm'.drew
  obtain ⟨w1, hrun, hm1, ht1⟩ := hmd.store (t := 52) kI Tryz.underlying52 (by unfold maxLen; omega) (keyI num hn) (val := .pointer (some ⟨xb, 0, none⟩)) rfl
  have HM := hideIt hm1
  have HT := hideIt ht1
  have HX := hideIt hx'
  have HK := hideIt hk
  clear h hx hm hk hf hx' hm' hmd hm1 ht1
  go_enter Tryz.func67, Tryz.ntmps67
  go_wp2
  go_region
  all_goals exact bodyPost_end (results_none Tryz.results67 _ _ _) rfl ⟨rfl, (Kept.of_turned HT.out).fs HX.out (by simpa using hmx), HM.out, (HK.out.drew.trans (Kept.of_turned HT.out)).sub (by simp)⟩
end
end Go.Proofs.YtknmmlfdlfioiaaGreatDoor.Vc
namespace Go.Proofs.YtknmmlfdlfioiaaGreatDoor.Vc
open Go.RowKit
theorem step_append_own {P : Program} {ops : Array Oper} {o : Oper} {a : Act} {w : World} {K : Act → World → Prop} {Q : Exit → Act → World → Prop} {E : Prop}
    (hg : o.guard = none) (s x : Operand) (t : TypeId) (hop : o.op = Op.call { callee := Callee.builtin Builtin.append, args := #[s, x], argTypes := #[t, t] })
    (base : Nat) (e : TypeId) (i : TypeInfo) (z : Value) (size bytes : Nat) (h1 : P.underlying t = some (.slice e)) (h2 : P.info? e = some i) (h3 : i.zero = some z) (h4 : i.size = size) (h5 : i.bytes = bytes) (h6 : z.cells.size = size) (h7 : 0 < size)
    (v : Value) (n : Nat) (xs : List Value) (hs : a.eval s = v) (hown : w.ownsRow base e size v n xs)
    (ad : Addr) (m c : Nat) (news : List Value) (hx : a.eval x = .slice (some ad) m c) (hn : news.length = m * size) (hc : ∀ j u, news[j]? = some u → w.cell? (ad.add j) = some u) (h1c : ∀ u ∈ news, u.oneCell' = true)
    (b1 : n + m ≤ maxLen) (b2 : (n + m) * bytes ≤ 140737488355328) (hbase : base ≤ w.heap.size)
    (hK : ∀ v' w', w'.ownsRow base e size v' (n + m) (xs ++ news) → w.grownBy w' v.ownBlock → K (a.put o.dst v') w') :
    if Region.wanted o (yielded ops a.tmps) = true then Oper.wp P o a w K Q else E := by
  have hw : Region.wanted o (yielded ops a.tmps) = true := by simp [Region.wanted, hg]
  rw [if_pos hw]
  obtain ⟨v', w', hrun, r1, r2, _⟩ := run_append_own (P := P) w base t o.type e i z size bytes h1 h2 h3 h4 h5 h6 h7 v n xs hown ad m c news hn hc h1c b1 b2 hbase
  unfold Oper.wp
  simp [execOp, hop, resolve, invoke, builtin, hs, hx, hrun, Result.andThen]
  exact hK _ _ r1 r2
end Go.Proofs.YtknmmlfdlfioiaaGreatDoor.Vc
namespace Go.Proofs.YtknmmlfdlfioiaaGreatDoor.Vc
open Go.RowKit Go.Shelf Go.Maps
variable {pl : Value}
variable {B0 : Nat}
/-- Something that is done to names, as it is handed on. -/
def actv (kind : Int) (p to : ByteArray) (file : Value) : Array Value := #[.int .i64 kind, .string p, .string to, file]
theorem Kept.alloc (w : World) (o : Obj) : Kept [] w (w.alloc o) := ⟨rfl, rfl, rfl, by simp, fun k hk _ => Below.heap_alloc _ _ _ hk⟩
set_option maxHeartbeats 400000 in
set_option maxRecDepth 100000 in
theorem do_comes {w : World} {b n : Nat} {D : DataW Value} (hm : NMap w b n D) (hn : n < 1000000) (p : ByteArray) (hp : p.size ≤ 140737488355328) (hd : dirOf p = ⟨#[]⟩) (hh : Maps.has D (key p) = false) (file : Value) :
    Calls Tryz.prog 25 #[.map (some b), .agg #[.int .i64 0, .string p, .string ⟨#[]⟩, file]] w fun e w' => e = .returned (.tuple #[]) ∧ NMap w' b (n + 1) (D.put (key p) (.held file)) ∧ Kept [b] w w' := by
  have hp' : p.size ≤ maxLen := by unfold maxLen; omega
  obtain ⟨W, hW⟩ : ∃ W, w.alloc (.cells #[.int .i64 0, .string p, .string ⟨#[]⟩, file] 69) = W := ⟨_, rfl⟩
  have hk : Kept [] w W := by rw [← hW]; exact Kept.alloc _ _
  have hm' := hk.map hm (by simp)
  have hrow : W.heap[w.heap.size]? = some (.cells #[.int .i64 0, .string p, .string ⟨#[]⟩, file] 69 (0, 0)) := by rw [← hW]; exact alloc_at rfl
  have c0 : W.cell? ⟨w.heap.size, 0, none⟩ = some (.int .i64 0) := cellAt hrow rfl
  have c1 : W.cell? ⟨w.heap.size, 1, none⟩ = some (.string p) := cellAt hrow rfl
  have c3 : W.cell? ⟨w.heap.size, 3, none⟩ = some file := cellAt hrow rfl
  have hl := look_ok hm' p hp'
  rw [hh] at hl
  generalize valAt D (key p) = v at hl
  have HD := hideIt (fun W => folderOf_any p W hp)
  rw [hd] at HD
  have HF := hideIt (folder_root (w := W) (m := .map (some b)) (.inr ⟨b, n, D, rfl, hm'⟩))
  obtain ⟨w1, hrun, hm1, ht1⟩ := hm'.store (t := 50) kS Tryz.underlying50 (by unfold maxLen; omega) (keyS p hp') (val := file) rfl
  have HM := hideIt hm1
  have HK : Hid (Kept [b] w w1) := hideIt ((hk.trans (Kept.of_turned ht1)).sub (by simp))
  clear hk hm' hrow hm hm1 ht1 hd hh
  go_enter Tryz.func25, Tryz.ntmps25
  go_wp2_with (first | (go_at_call 47; refine (HD.out _).mono ?_; rintro e w2 ⟨rfl, rfl⟩) | (go_at_call 46; refine HF.out.mono ?_; rintro e w2 ⟨rfl, rfl⟩))
  exact bodyPost_end (results_none Tryz.results25 _ _ _) rfl ⟨rfl, HM.out, HK.out⟩
/-- A world that parts from another by draws alone. -/
structure Same (W X : World) : Prop where
  os : X.os = W.os
  tape : X.tape = W.tape
  output : X.output = W.output
  heap : X.heap = W.heap
theorem Same.kept {W X : World} (h : Same W X) : Kept [] W X := ⟨h.os, h.tape, h.output, by rw [h.heap]; exact Nat.le_refl _, fun k _ _ => by rw [h.heap]⟩
theorem infoA : (Tryz.prog.info? 69).map (fun i => (i.zero, i.size, i.bytes)) = some (some (.agg #[.int .i64 0, .string ⟨#[]⟩, .string ⟨#[]⟩, .pointer none]), 4, 48) := by kernel_rfl
theorem Kept.of_grown {w w' : World} {r : Option Nat} (h : w.grownBy w' r) : Kept r.toList w w' :=
  ⟨h.os, h.tape, h.output, h.size, fun k hk hn => h.block k hk (fun e => hn (by rw [← e]; simp))⟩
theorem Kept.row {bs : List Nat} {w w' : World} {base n : Nat} {e : TypeId} {size : Nat} {v : Value} {xs : List Value} (h : Kept bs w w') (ho : w.ownsRow base e size v n xs) (hb : ∀ g, v.ownBlock = some g → g ∉ bs) : w'.ownsRow base e size v n xs := by
  refine ⟨ho.1, ?_⟩
  rcases ho.2 with h1 | ⟨g, cap, cur, rfl, h1, h2, h3⟩
  · exact .inl h1
  · exact .inr ⟨g, cap, cur, rfl, h1, h.fs h2 (hb g rfl), h3⟩
/-- A row of things done is no other block. -/
theorem row_ne {w : World} {base n : Nat} {v : Value} {xs : List Value} {b : Nat} {o : Obj} (ho : w.ownsRow base 69 4 v n xs) (h : w.heap[b]? = some o) (hne : ∀ cur, o ≠ .cells cur 69 (0, 0)) : ∀ g, v.ownBlock = some g → g ≠ b := by
  intro g hg e
  subst e
  rcases ho.2 with ⟨rfl, _⟩ | ⟨g', cap, cur, rfl, h1, h2, h3⟩
  · cases hg
  · simp [Value.ownBlock] at hg
    subst hg
    rw [h] at h2
    exact hne cur (Option.some.inj h2)
theorem slice_of {w : World} {base n : Nat} {e : TypeId} {size : Nat} {v : Value} {xs : List Value} (h : w.ownsRow base e size v n xs) : ∃ a m c, v = .slice a m c := by
  rcases h.2 with ⟨rfl, _⟩ | ⟨g, cap, cur, rfl, _⟩
  · exact ⟨_, _, _, rfl⟩
  · exact ⟨_, _, _, rfl⟩
theorem act_cells {w : World} (k : Int) (p t : ByteArray) (v : Value) (j : Nat) (u : Value) (h : [Value.int .i64 k, .string p, .string t, v][j]? = some u) :
    (w.alloc (.cells #[.int .i64 k, .string p, .string t, v] 69)).cell? ((⟨w.heap.size, 0, none⟩ : Addr).add j) = some u := by
  rw [Addr.add_lit, Nat.zero_add, World.cell?_alloc_at _ _ _ _ rfl]
  simpa using h
theorem act_one (k : Int) (p t : ByteArray) (a : Option Addr) : ∀ u ∈ [Value.int .i64 k, .string p, .string t, .pointer a], u.oneCell' = true := by
  intro u hu
  simp only [List.mem_cons, List.not_mem_nil, or_false] at hu
  rcases hu with rfl | rfl | rfl | rfl <;> rfl
theorem enact_end {w w2 : World} {fb b n k : Nat} {D : DataW Value} {sure done v unsure : Value} {came used room steps : Int} {dead : Bool} {ys : List Value} {cs : List Nat} (t1 : FsAt w2 fb (.map (some b)) sure done unsure came used room steps dead pl) (t2 : NMap w2 b n D) (t3 : Kept (b :: fb :: cs) w w2) {Q : Nat → Prop}
    (ho : w2.ownsRow B0 69 4 v k ys) (hq : ∀ g, v.ownBlock = some g → Q g) : ∃ done', (∀ g, done'.ownBlock = some g → Q g) ∧ FsAt (w2.setCell ⟨fb, 2, none⟩ v) fb (.map (some b)) sure done' unsure came used room steps dead pl ∧ NMap (w2.setCell ⟨fb, 2, none⟩ v) b n D ∧ (w2.setCell ⟨fb, 2, none⟩ v).ownsRow B0 69 4 done' k ys ∧ Kept (b :: fb :: cs) w (w2.setCell ⟨fb, 2, none⟩ v) := by
  have hbf := file_ne_map t1 t2
  refine ⟨v, hq, ?_, (Kept.set fb 2 v).map t2 (by simpa using fun e => hbf e.symm), (Kept.set fb 2 v).row ho (fun g hg => ?_), ?_⟩
  · unfold FsAt
    rw [heap_setCell_same w2 fb 2 _ 54 _ t1]
    rfl
  · have := row_ne ho t1 (fun cur => by simp) g hg
    simpa using this
  · exact (t3.trans (Kept.set fb 2 v)).sub (by intro a h; simp at h ⊢; rcases h with h | h | h | h <;> simp [h])
end Go.Proofs.YtknmmlfdlfioiaaGreatDoor.Vc
namespace Go.Proofs.YtknmmlfdlfioiaaGreatDoor.Vc
open Go.RowKit Go.Shelf Go.Maps
variable {B0 : Nat}
theorem map_fact {w : World} {k : TypeId} {b n : Nat} {D : DataW Value} (h : w.ownsMap Tryz.prog k anyE b n D) : ∃ es c, w.heap[b]? = some (.map es c) := by
  obtain ⟨es, c, h1, _⟩ := h
  exact ⟨es, c, h1⟩
theorem row_ne_map {w : World} {base n m : Nat} {v : Value} {xs : List Value} {b : Nat} {k : TypeId} {D : DataW Value} (ho : w.ownsRow base 69 4 v n xs) (h : w.ownsMap Tryz.prog k anyE b m D) : b ∉ v.ownBlock.toList := by
  obtain ⟨es, c, h1⟩ := map_fact h
  cases hob : v.ownBlock with
  | none => simp
  | some g => simp; exact fun e => row_ne ho h1 (fun cur => by simp) g hob e.symm
theorem row_ne_cells {w : World} {base n : Nat} {v : Value} {xs : List Value} {b : Nat} {arr : Array Value} {t : TypeId} (ho : w.ownsRow base 69 4 v n xs) (h : w.heap[b]? = some (.cells arr t (0, 0))) (ht : t ≠ 69) : b ∉ v.ownBlock.toList := by
  cases hob : v.ownBlock with
  | none => simp
  | some g => simp; exact fun e => row_ne ho h (fun cur => by simp [ht]) g hob e.symm
theorem clone_any (s : ByteArray) (w : World) (hs : s.size ≤ 140737488355328) : Calls Tryz.prog 66 #[.string s] w fun e w' => e = .returned (.string s) ∧ Below w.heap.size w w' := by
  have HC := hideIt (Tryz.stringslite_Clone s w (by omega))
  go_enter Tryz.func66, Tryz.ntmps66
  go_wp2_with (first | (go_at_call 86; refine HC.out.mono ?_; rintro e w1 ⟨rfl, hb1⟩))
  go_ret
  exact ⟨rfl, hb1⟩
theorem Kept.drewN {bs : List Nat} {w w' : World} (h : Kept bs w w') : ∀ j, Kept bs w (w'.drewN j)
  | 0 => h
  | j + 1 => (Kept.drewN h j).drew
section
variable {w : World} {fb b1 b2 b3 : Nat} {done : Value} {came used room steps n1 n2 n3 k : Nat} {D1 D2 D3 : DataW Value} {xs : List Value}
/-- Behind a step: the file's block is laid, and counted. -/
def boxed (w : World) (fb came : Nat) : World := (w.setCell ⟨fb, 4, none⟩ (.int .i64 ((came : Int) + 1))).alloc (.cells #[.int .i64 (came : Int), .string ⟨#[]⟩, .string ⟨#[]⟩, .int .i64 1] 78)
end
theorem Kept.fresh {bs cs : List Nat} {w w' : World} (h : Kept cs w w') (hs : ∀ x ∈ cs, x ∈ bs ∨ w.heap.size ≤ x) : Kept bs w w' := ⟨h.os, h.tape, h.output, h.size, fun k hk hn => h.block k hk (fun e => by
  rcases hs k e with h1 | h1
  · exact hn h1
  · omega)⟩
theorem kept_drew {W X : World} (h : Below W.drew.heap.size W.drew X) : Kept [] W X := ⟨h.os, h.tape, h.output, h.size, fun k hk _ => h.block k hk⟩
section
variable {w : World} {fb : Nat} {nv sv done uv : Value} {came used room steps : Nat}
end
end Go.Proofs.YtknmmlfdlfioiaaGreatDoor.Vc
namespace Go.Proofs.YtknmmlfdlfioiaaGreatDoor.Vc
open Go.RowKit Go.Shelf Go.Maps
variable {B0 : Nat}
section
variable {w : World} {fb b1 b2 b3 : Nat} {done : Value} {came used room steps n1 n2 n3 k : Nat} {D1 D2 D3 : DataW Value} {xs : List Value}
end
end Go.Proofs.YtknmmlfdlfioiaaGreatDoor.Vc
namespace Go.Proofs.YtknmmlfdlfioiaaGreatDoor.Vc
open Go.RowKit Go.Shelf Go.Maps
variable {B0 : Nat}
section
variable {w : World} {fb b1 b2 b3 : Nat} {done : Value} {came used room steps n1 n2 n3 k : Nat} {D1 D2 D3 : DataW Value} {xs : List Value}
end
section
variable {w : World} {fb b1 b2 b3 : Nat} {done : Value} {came used room steps n1 n2 n3 : Nat} {D1 D2 D3 : DataW Value}
end
end Go.Proofs.YtknmmlfdlfioiaaGreatDoor.Vc
namespace Go.Proofs.YtknmmlfdlfioiaaGreatDoor.Vc
open Go.RowKit Go.Shelf Go.Maps Go.Sort Go.ChangeMaps Go.MapKept
variable {B0 : Nat}
theorem sorts_in (m : Nat) : AnyZI.SortsIn Tryz.prog Tryz.sortedI_ren Fence.wide m :=
  ⟨fun blk off cap ss W hH hblk hsz => callsIn_wide.2 (Tryz.slices_Sort_int blk off cap ss W hH hblk hsz),
   fun p cap W => callsIn_wide.2 (Tryz.slices_Sort_int_none p cap W)⟩
theorem keys_any (mb : Option Nat) (W : World) : Calls Tryz.prog 27 #[.map mb] W fun e w' => e = .returned (.func (.func 51) #[] #[.pointer (some ⟨W.heap.size, 0, none⟩)]) ∧ w' = W.alloc (.cells #[.map mb] 52) :=
  (callsIn_wide (n := 5)).1 (AnyZI.keys_in Tryz.keysI Fence.wide 5 trivial rfl mb W)
theorem map_eql (t : TypeId) (k e : TypeId) (ht : Tryz.prog.underlying t = some (.map k e)) (p : Option Nat) (w : World) : (binOp .eql t (.map p) (.map none)).run Tryz.prog w = .ok (.bool p.isNone) w := run_eql_map_nil_sl w t k e p ht
set_option maxHeartbeats 400000 in
set_option maxRecDepth 100000 in
theorem clone_names {w : World} {b n : Nat} {D : DataW Value} (h : NMap w b n D) : Calls Tryz.prog 29 #[.map (some b)] w fun e w' => e = .returned (.map (some w.heap.size)) ∧ NMap w' w.heap.size n D ∧ Kept [] w w' := by
  obtain ⟨es, clock, hb, F, hs, hD⟩ := h
  have hq := fun w => map_eql 50 _ _ Tryz.underlying50 (some b) w
  go_enter Tryz.func29, Tryz.ntmps29
  go_wp2
  rw [run_callFunc_extern Tryz.func52 (by kernel_rfl) (by kernel_rfl) (by kernel_rfl) (e := Extern.MapsClone.clone) (by kernel_rfl), run_maps_clone_sl w 50 hb]
  simp only [Result.andThen]
  rw [Oper.upon_value]
  go_wp2
  rw [run_typeAssert_map_sl _ 50 20 _ _ _ Tryz.underlying50]
  simp only [Result.andThen]
  rw [Oper.upon_value]
  go_wp2
  go_ret
  exact ⟨rfl, ⟨es, clock, alloc_at rfl, F, hs, hD⟩, Kept.alloc _ _⟩
theorem clear_run {w : World} {b n : Nat} {D : DataW Value} (h : UMap w b n D) : ∃ w', (∀ ty, (Builtin.clear_ #[52] ty #[.map (some b)]).run Tryz.prog w = .ok (.tuple #[]) w') ∧ UMap w' b 0 (.map []) ∧ Kept [b] w w' := by
  obtain ⟨es, clock, hb, F, hs, hD⟩ := h
  refine ⟨setBlock w b (.map #[] clock), ?_, ⟨#[], clock, heap_setBlock_same hb _, ?_, Nat.le_refl _, rfl⟩, ?_⟩
  · intro ty
    simp [Builtin.clear_, run_underlying Tryz.underlying52, MapKept.run_getObj_map hb, MapKept.run_setObj_map _ hb, Result.andThen, setBlock]
  · exact ⟨by simp, stamped_empty clock, by simp⟩
  · exact ⟨rfl, rfl, rfl, by simp [setBlock], fun k _ hk => heap_setBlock_other hb _ (by simpa using hk)⟩
/-- A map with one name. -/
def one (p : ByteArray) (v : Value) : DataW Value := DataW.put (.map []) (key p) (.held v)
theorem keyS_inv (k : Value) (kl : Lit) (h : keyOf Tryz.prog 9 k = some kl) : ∃ s : ByteArray, k = .string s := by
  exact Maps.keyOf_string_inv Tryz.underlying9 h
theorem ranges_ne {w : World} {b r n cnt xb : Nat} {D : DataW Value} {left : Lit → Bool} {arr : Array Value} {t : TypeId} (h : w.ranges Tryz.prog 9 anyE b r n D left cnt) (hx : w.heap[xb]? = some (.cells arr t (0, 0))) : xb ≠ b ∧ xb ≠ r := by
  obtain ⟨es, c, since, seen, c0, h1, _, _, _, h2, _⟩ := h
  constructor
  · intro e; subst e; rw [hx] at h1; cases h1
  · intro e; subst e; rw [hx] at h2; cases h2
theorem ranges_drew {w : World} {b r n cnt : Nat} {D : DataW Value} {left : Lit → Bool} (h : w.ranges Tryz.prog 9 anyE b r n D left cnt) : w.drew.ranges Tryz.prog 9 anyE b r n D left cnt := by
  unfold World.ranges at h ⊢
  exact h
end Go.Proofs.YtknmmlfdlfioiaaGreatDoor.Vc
namespace Go.Proofs.YtknmmlfdlfioiaaGreatDoor.Vc
open Go.RowKit Go.Shelf Go.Maps
variable {B0 : Nat}
theorem kept_enters : ∀ args w, (callFunc 24 args).run Tryz.prog w = .ok (.enter 24 args) w := enters_of Tryz.func24 (by kernel_rfl) rfl
section
variable {w : World} {fb b1 b2 b3 : Nat} {done : Value} {came used room steps n1 n2 n3 xb num : Nat} {D1 : DataW Value} {now sure : ByteArray} {links : Int} {x : Option Addr} {q : ByteArray}
end
end Go.Proofs.YtknmmlfdlfioiaaGreatDoor.Vc
namespace Go.Proofs.YtknmmlfdlfioiaaGreatDoor.Vc
open Go.RowKit Go.Shelf Go.Maps
variable {pl : Value}
set_option maxHeartbeats 400000 in
set_option maxRecDepth 100000 in
theorem up_any {w : World} {fb : Nat} {now sure done unsure : Value} {came used room steps : Int} (h : FsAt w fb now sure done unsure came used room steps true pl) :
    Calls Tryz.prog 13 #[.pointer (some ⟨fb, 0, none⟩)] w fun e w' => e = .returned (.bool true) ∧ FsAt w' fb now sure done unsure came used room steps false pl ∧ Kept [fb] w w' := by
  have c9 := fs9 h
  have f9 := thawAt h 9
  have HR : Hid (FsAt (w.setCell ⟨fb, 9, none⟩ (.bool false)) fb now sure done unsure came used room steps false pl) := hideIt (by
    unfold FsAt
    rw [heap_setCell_same w fb 9 _ 54 _ h]
    rfl)
  clear h
  go_enter Tryz.func13, Tryz.ntmps13
  go_wp2
  go_ret
  exact ⟨rfl, HR.out, Kept.set _ _ _⟩
theorem new_at (room : Nat) (w : World) : Calls Tryz.prog 16 #[.int .i64 (room : Int)] w fun e w' => e = .returned (.tuple #[.pointer (some ⟨w.heap.size, 0, none⟩), .int .i64 0]) ∧ FsAt w' w.heap.size (.map none) (.map none) (.slice none 0 0) (.map none) 0 0 room 0 false ∧ Kept [] w w' ∧ w'.heap.size = w.heap.size + 1 :=
  (new_any room w).mono fun e w' ⟨h1, h2⟩ => ⟨h1, by rw [h2]; exact alloc_at rfl, by rw [h2]; exact Kept.alloc _ _, by rw [h2]; simp⟩
theorem Kept.base {bs : List Nat} {w w' : World} (h : Kept bs w w') (n0 : Nat) (hn : n0 ≤ w.heap.size) (hb : ∀ x ∈ bs, n0 ≤ x) : Below n0 w w' := ⟨h.os, h.tape, h.output, h.size, fun k hk => h.block k (by omega) (fun e => by have := hb k e; omega)⟩
theorem row_base {B n : Nat} {w : World} {v : Value} {xs : List Value} (h : w.ownsRow B 69 4 v n xs) : ∀ x ∈ v.ownBlock.toList, B ≤ x := by
  intro x hx
  rcases h.2 with ⟨rfl, _⟩ | ⟨g, cap, cur, rfl, h1, _⟩
  · simp [Value.ownBlock] at hx
  · simp [Value.ownBlock] at hx
    omega
theorem MaxAt.base {w w' : World} {n0 : Nat} (h : MaxAt w) (hb : Below n0 w w') (hn : 1 < n0) : MaxAt w' := h.keep (hb.block _ hn)
end Go.Proofs.YtknmmlfdlfioiaaGreatDoor.Vc
namespace Go.Proofs.YtknmmlfdlfioiaaGreatDoor.Vc
open Go.RowKit Go.Shelf Go.Maps Go.ChangeMaps Go.MapKept
theorem Kept.ranges {bs : List Nat} {w w' : World} {k : TypeId} {b r n cnt : Nat} {D : DataW Value} {left : Lit → Bool} (h : Kept bs w w') (hr : w.ranges Tryz.prog k anyE b r n D left cnt) (hb : b ∉ bs) (hrr : r ∉ bs) : w'.ranges Tryz.prog k anyE b r n D left cnt := by
  obtain ⟨es, c, since, seen, c0, h1, h2, h3, h4, h5, h6⟩ := hr
  exact ⟨es, c, since, seen, c0, h.fs h1 hb, h2, h3, h4, h.fs h5 hrr, h6⟩
theorem ranges_ne_map {w : World} {k k2 : TypeId} {b r n cnt m m2 : Nat} {D D2 : DataW Value} {left : Lit → Bool} (h : w.ranges Tryz.prog k anyE b r n D left cnt) (hm : w.ownsMap Tryz.prog k2 anyE m m2 D2) : m ≠ r := by
  obtain ⟨es, c, since, seen, c0, _, _, _, _, h2, _⟩ := h
  obtain ⟨es2, c2, h3, _⟩ := hm
  intro e
  subst e
  rw [h3] at h2
  cases h2
theorem keyI_inv (k : Value) (kl : Lit) (h : keyOf Tryz.prog 3 k = some kl) : ∃ z : Int, k = .int .i64 z := by
  obtain ⟨z, h1, _⟩ := Maps.keyOf_int_inv Tryz.underlying3 h
  exact ⟨z, h1⟩
end Go.Proofs.YtknmmlfdlfioiaaGreatDoor.Vc
namespace Go.Proofs.YtknmmlfdlfioiaaGreatDoor.Vc
open Go.RowKit Go.Shelf Go.Maps
/-- Is a folder there? (v: what stands under the path.) -/
def folderB (D : DataW Value) (p : ByteArray) (v : Option Addr) : Bool := p.data.toList.isEmpty || (Maps.has D (key p) && v.isNone)
set_option maxHeartbeats 400000 in
set_option maxRecDepth 100000 in
theorem folder_gen {w : World} {b n : Nat} {D : DataW Value} (h : NMap w b n D) (p : ByteArray) (hp : p.size ≤ 140737488355328) (v : Option Addr) (hv : valAt D (key p) = .pointer v) :
    Calls Tryz.prog 46 #[.map (some b), .string p] w fun e w' => e = .returned (.bool (folderB D p v)) ∧ w' = w := by
  have hl := look_ok h p (by unfold maxLen; omega)
  rw [hv] at hl
  have HB : Hid (folderB D p v = (p.data.toList.isEmpty || (Maps.has D (key p) && v.isNone))) := hideIt rfl
  have e2 : p.toList.isEmpty = p.data.toList.isEmpty := by rw [ByteArray.toList_eq]
  have e1 : (p.toList == []) = p.data.toList.isEmpty := by rw [ByteArray.toList_eq]; cases p.data.toList <;> rfl
  generalize p.data.toList.isEmpty = y at e1 e2 HB
  generalize Maps.has D (key p) = z at hl HB
  clear h hv
  cases y <;> cases z <;> cases v
  all_goals go_enter Tryz.func46, Tryz.ntmps46
  all_goals go_wp2
  all_goals go_ret
  all_goals exact ⟨by rw [HB.out]; rfl, rfl⟩
/-- Nothing stands in a folder. -/
def NoKids (D : DataW Value) (p : ByteArray) : Prop := ∀ l, Maps.has D (.string l) = true → (dirOf (bs l)).data.toList ≠ p.data.toList
set_option maxHeartbeats 1600000 in
set_option maxRecDepth 100000 in
theorem bare_gen {w : World} {b n : Nat} {D : DataW Value} (h : NMap w b n D) (p : ByteArray) (hp : p.size ≤ 140737488355328) (v : Option Addr) (hv : valAt D (key p) = .pointer v) (hkeys : ∀ l, Maps.has D (.string l) = true → l.length ≤ 1000) :
    Calls Tryz.prog 48 #[.map (some b), .string p] w fun e w' => ∃ y, e = .returned (.bool y) ∧ (y = true ↔ (folderB D p v = false ∨ NoKids D p)) ∧ Kept [] w w' := by
  have HF := hideIt (folder_gen h p hp v hv)
  cases hfb : folderB D p v with
  | false =>
    rw [hfb] at HF
    clear h hv
    go_enter Tryz.func48, Tryz.ntmps48
    go_wp2_with (first | (go_at_call 46; refine HF.out.mono ?_; rintro e wx ⟨rfl, hwx⟩; obtain rfl := hwx.symm))
    go_ret
    exact ⟨true, rfl, by simp, Kept.refl _ _⟩
  | true =>
    rw [hfb] at HF
    have HM := hideIt h
    have HK := hideIt hkeys
    clear h hv hkeys
    go_enter Tryz.func48, Tryz.ntmps48
    go_wp2_with (first | (go_at_call 46; refine HF.out.mono ?_; rintro e wx ⟨rfl, hwx⟩; obtain rfl := hwx.symm) | (at_range; refine wpList_range_own _ rfl _ 50 rfl 9 67 kS Tryz.underlying50 anyE b n _ rfl HM.out ?_; intro w1 hrg1 hg1 hs1))
    go_frame
    have hk1 : Kept [] w w1 := Kept.of_grown hg1
    go_loopw [5] (fun _ wr => ∃ left cnt, wr.ranges Tryz.prog 9 anyE b w.heap.size n D left cnt ∧ (∀ l, Maps.has D (.string l) = true → left (.string l) = false → (dirOf (bs l)).data.toList ≠ p.data.toList) ∧ Kept [w.heap.size] w1 wr) (fun _ wr => wr.rangeLeft b w.heap.size)
    case atStart => exact ⟨_, _, hrg1, (fun l h1 h2 => by rw [h1] at h2; cases h2), Kept.refl _ _⟩
    case round =>
      obtain ⟨left, cnt, hrg, hno, hkr⟩ := hrel
      have HN := hideIt hno
      have HR := hideIt hkr
      have HK1 := hideIt hk1
      clear hno hkr
      go_wp2_with (first | (at_next; refine wpList_next_ranges _ rfl _ rfl 9 kS anyE Value.string (fun v => v) keyS_inv (fun v _ _ => ⟨v, rfl⟩) b _ n _ _ _ rfl hrg ?_ ?_))
      · intro hz hleft
        go_wp2
        go_ret
        exact ⟨true, rfl, by simp; exact fun l hl => HN.out l hl (hleft _), (HK1.out.trans HR.out).fresh (by simp)⟩
      · intro x v' kl y1 y2 w2 cnt2 hkx hlx hvy hat hrg2 hlt2 hg2 hs2 hen2
        obtain ⟨z, ez, ekl, hzl⟩ := Maps.keyOf_str Tryz.underlying9 hkx
        have hxz : x = bs z := by injection ez
        subst hxz
        subst ekl
        have hhas : Maps.has D (.string z) = true := Maps.has_true_of_atKey hat
        have hzs : (bs z).size ≤ 140737488355328 := by have := HK.out z hhas; rw [bs_size]; omega
        have HFO := hideIt (fun X => folderOf_any (bs z) X hzs)
        have HH := hideIt hhas
        obtain ⟨d, hd⟩ : ∃ d, dirOf (bs z) = d := ⟨_, rfl⟩
        rw [hd] at HFO
        have HD := hideIt hd
        have HG := hideIt hrg2
        have HG2 := hideIt (Kept.of_grown hg2)
        by_cases heq : d.data.toList = p.data.toList
        · have q1 : (d.toList == p.toList) = true := by rw [ByteArray.toList_eq, ByteArray.toList_eq]; simpa using heq
          have HE := hideIt heq
          clear hrg2 hg2 hat hvy hlx hkx hhas hd heq hzl ez
          go_wp2_with (first | (go_at_call 47; refine (HFO.out _).mono ?_; rintro e wx ⟨rfl, hwx⟩; obtain rfl := hwx.symm))
          go_ret
          exact ⟨false, rfl, by simp; exact fun hn => hn z HH.out (by rw [HD.out, HE.out]), ((HK1.out.trans HR.out).trans HG2.out).fresh (by simp)⟩
        · have q1 : (d.toList == p.toList) = false := by rw [ByteArray.toList_eq, ByteArray.toList_eq]; simpa using heq
          have HE := hideIt heq
          have HL : Hid (cnt2 < cnt) := hideIt hlt2
          have HRG := hideIt hrg
          clear hrg2 hg2 hat hvy hlx hkx hhas hd heq hzl ez hlt2 hrg
          go_wp2_with (first | (go_at_call 47; refine (HFO.out _).mono ?_; rintro e wx ⟨rfl, hwx⟩; obtain rfl := hwx.symm))
          go_roundw
          case rel => exact ⟨_, _, HG.out, (fun l h1 h2 => by
            simp only [Bool.and_eq_false_iff, Bool.not_eq_false'] at h2
            rcases h2 with h2 | h2
            · exact HN.out l h1 h2
            · have := WideAt.sameKey_eq h2
              injection this with this
              subst this
              rw [HD.out]
              exact HE.out), (HR.out.trans HG2.out).sub (by simp)⟩
          case measure => rw [HG.out.left_eq, HRG.out.left_eq]; exact HL.out
end Go.Proofs.YtknmmlfdlfioiaaGreatDoor.Vc
namespace Go.Proofs.YtknmmlfdlfioiaaGreatDoor.Vc
open Go.RowKit Go.Shelf Go.Maps Go.ChangeMaps Go.MapKept
/-- What stands under a path: an address, or none. -/
def pv (D : DataW Value) (p : ByteArray) : Option Addr := match valAt D (key p) with
  | .pointer a => a
  | _ => none
/-- All that stands under paths is an address, or none. -/
def Ptrs (D : DataW Value) : Prop := ∀ p, valAt D (key p) = .pointer (pv D p)
def comesD (D : DataW Value) (p : ByteArray) (file : Value) : DataW Value := if Maps.has D (key p) = false ∧ folderB D (dirOf p) (pv D (dirOf p)) = true then D.put (key p) (.held file) else D
theorem dir_size (p : ByteArray) (hp : p.size ≤ 1000) : (dirOf p).size ≤ 1000 := by
  unfold dirOf
  rw [ByteArray.size_extract]
  omega
set_option maxHeartbeats 800000 in
set_option maxRecDepth 100000 in
theorem do_comes_gen {w : World} {b n : Nat} {D : DataW Value} (hm : NMap w b n D) (hn : n < 100000000) (hD : Ptrs D) (p to : ByteArray) (hp : p.size ≤ 1000) (f : Option Addr) :
    Calls Tryz.prog 25 #[.map (some b), .agg #[.int .i64 0, .string p, .string to, .pointer f]] w fun e w' => e = .returned (.tuple #[]) ∧ NMap w' b (n + 1) (comesD D p (.pointer f)) ∧ Kept [b] w w' := by
  have hp' : p.size ≤ maxLen := by unfold maxLen; omega
  obtain ⟨W, hW⟩ : ∃ W, w.alloc (.cells #[.int .i64 0, .string p, .string to, .pointer f] 69) = W := ⟨_, rfl⟩
  have hk : Kept [] w W := by rw [← hW]; exact Kept.alloc _ _
  have hm' := hk.map hm (by simp)
  have hrow : W.heap[w.heap.size]? = some (.cells #[.int .i64 0, .string p, .string to, .pointer f] 69 (0, 0)) := by rw [← hW]; exact alloc_at rfl
  have c0 : W.cell? ⟨w.heap.size, 0, none⟩ = some (.int .i64 0) := cellAt hrow rfl
  have c1 : W.cell? ⟨w.heap.size, 1, none⟩ = some (.string p) := cellAt hrow rfl
  have c3 : W.cell? ⟨w.heap.size, 3, none⟩ = some (.pointer f) := cellAt hrow rfl
  have hl := look_ok hm' p hp'
  rw [hD p] at hl
  have hds := dir_size p hp
  have HD := hideIt (fun X => folderOf_any p X (by omega))
  have HF : Hid (Calls Tryz.prog 46 #[.map (some b), .string (dirOf p)] W fun e w' => e = .returned (.bool (folderB D (dirOf p) (pv D (dirOf p)))) ∧ W = w') := hideIt ((folder_gen hm' (dirOf p) (by omega) _ (hD (dirOf p))).mono fun _ _ h => ⟨h.1, h.2.symm⟩)
  obtain ⟨w1, hrun, hm1, ht1⟩ := hm'.store (t := 50) kS Tryz.underlying50 (by unfold maxLen; omega) (keyS p hp') (val := .pointer f) rfl
  have HM := hideIt hm1
  have HM0 : Hid (NMap W b (n + 1) D) := hideIt (hm'.mono (by omega))
  have HK : Hid (Kept [b] w w1) := hideIt ((hk.trans (Kept.of_turned ht1)).sub (by simp))
  have HK0 : Hid (Kept [b] w W) := hideIt (hk.sub (by simp))
  have HC : Hid (comesD D p (.pointer f) = if Maps.has D (key p) = false ∧ folderB D (dirOf p) (pv D (dirOf p)) = true then D.put (key p) (.held (.pointer f)) else D) := hideIt rfl
  generalize dirOf p = q at HD HF HC
  generalize folderB D q (pv D q) = y at HF HC
  generalize pv D p = v at hl
  generalize Maps.has D (key p) = z at hl HC
  clear hk hm' hrow hm hm1 ht1 hD
  cases z <;> cases y
  all_goals go_enter Tryz.func25, Tryz.ntmps25
  all_goals go_wp2_with (first | (go_at_call 47; refine (HD.out _).mono ?_; rintro e w2 ⟨rfl, hw2⟩; obtain rfl := hw2.symm) | (go_at_call 46; refine HF.out.mono ?_; rintro e w2 ⟨rfl, hw2⟩; obtain rfl := hw2))
  all_goals first
    | exact bodyPost_end (results_none Tryz.results25 _ _ _) rfl ⟨rfl, by rw [HC.out]; exact HM.out, HK.out⟩
    | exact bodyPost_end (results_none Tryz.results25 _ _ _) rfl ⟨rfl, by rw [HC.out]; exact HM0.out, HK0.out⟩
/-- What is left when something goes: it goes, or it may not. -/
def GoesTo (D : DataW Value) (p : ByteArray) (f : Option Addr) (D' : DataW Value) : Prop :=
  (D' = D.del (key p) ∧ Maps.has D (key p) = true ∧ pv D p = f ∧ (folderB D p (pv D p) = false ∨ NoKids D p)) ∨
  (D' = D ∧ ¬ (Maps.has D (key p) = true ∧ pv D p = f ∧ (folderB D p (pv D p) = false ∨ NoKids D p)))
set_option maxHeartbeats 1600000 in
set_option maxRecDepth 100000 in
theorem do_goes_gen {w : World} {b n : Nat} {D : DataW Value} (hm : NMap w b n D) (hD : Ptrs D) (hkeys : ∀ l, Maps.has D (.string l) = true → l.length ≤ 1000) (p to : ByteArray) (hp : p.size ≤ 1000) (f : Option Addr) (hpe : ∀ X, Kept [] w X → (binOp BinOp.eql 67 (.pointer (pv D p)) (.pointer f)).run Tryz.prog X = .ok (.bool (decide (pv D p = f))) X) :
    Calls Tryz.prog 25 #[.map (some b), .agg #[.int .i64 2, .string p, .string to, .pointer f]] w fun e w' => e = .returned (.tuple #[]) ∧ ∃ D', GoesTo D p f D' ∧ NMap w' b n D' ∧ Kept [b] w w' := by
  have hp' : p.size ≤ maxLen := by unfold maxLen; omega
  obtain ⟨W, hW⟩ : ∃ W, w.alloc (.cells #[.int .i64 2, .string p, .string to, .pointer f] 69) = W := ⟨_, rfl⟩
  have hk : Kept [] w W := by rw [← hW]; exact Kept.alloc _ _
  have hm' := hk.map hm (by simp)
  have hrow : W.heap[w.heap.size]? = some (.cells #[.int .i64 2, .string p, .string to, .pointer f] 69 (0, 0)) := by rw [← hW]; exact alloc_at rfl
  have c0 : W.cell? ⟨w.heap.size, 0, none⟩ = some (.int .i64 2) := cellAt hrow rfl
  have c1 : W.cell? ⟨w.heap.size, 1, none⟩ = some (.string p) := cellAt hrow rfl
  have c3 : W.cell? ⟨w.heap.size, 3, none⟩ = some (.pointer f) := cellAt hrow rfl
  have hl := look_ok hm' p hp'
  rw [hD p] at hl
  have HB := hideIt (bare_gen hm' p (by omega) _ (hD p) hkeys)
  have hpw := hpe W hk
  have HDR : Hid (∀ X, NMap X b n D → ∃ X', (∀ ty, (Builtin.delete_ #[50, 9] ty #[.map (some b), .string p]).run Tryz.prog X = .ok (.tuple #[]) X') ∧ NMap X' b n (D.del (key p)) ∧ X.mapTurned X' b) := hideIt (fun X hX => by
    obtain ⟨X', h1, h2, h3⟩ := hX.drop (t := 50) kS Tryz.underlying50 (keyS p hp') 0
    exact ⟨X', fun ty => h1, h2, h3⟩)
  have HX : Hid (∀ X, Kept [] W X → NMap X b n D ∧ X.cell? ⟨w.heap.size, 1, none⟩ = some (.string p) ∧ Kept [b] w X) := hideIt (fun X hX => ⟨hX.map hm' (by simp), cellAt (hX.fs hrow (by simp)) rfl, (hk.trans hX).sub (by simp)⟩)
  have HG : Hid (∀ D', GoesTo D p f D' ↔ (D' = D.del (key p) ∧ Maps.has D (key p) = true ∧ pv D p = f ∧ (folderB D p (pv D p) = false ∨ NoKids D p)) ∨ (D' = D ∧ ¬ (Maps.has D (key p) = true ∧ pv D p = f ∧ (folderB D p (pv D p) = false ∨ NoKids D p)))) := hideIt (fun _ => Iff.rfl)
  generalize pv D p = v at hl HB HG hpw
  generalize Maps.has D (key p) = z at hl HG
  clear hk hm' hrow hm hD hkeys hpe
  cases z
  · go_enter Tryz.func25, Tryz.ntmps25
    go_wp2
    exact bodyPost_end (results_none Tryz.results25 _ _ _) rfl ⟨rfl, D, (HG.out D).2 (.inr ⟨rfl, by simp⟩), (HX.out W (Kept.refl _ _)).1, (HX.out W (Kept.refl _ _)).2.2⟩
  · by_cases hvf : v = f
    · rw [decide_eq_true hvf] at hpw
      have HV := hideIt hvf
      clear hvf
      go_enter Tryz.func25, Tryz.ntmps25
      go_wp2_with (first | (go_at_call 48; refine HB.out.mono ?_; rintro e w2 ⟨y, rfl, hy, hk2⟩; obtain ⟨hm2, d1, hkk⟩ := HX.out w2 hk2; obtain ⟨w3, hdr, hm3, ht3⟩ := HDR.out w2 hm2; have HM2 := hideIt hm2; have HKK := hideIt hkk; have HY := hideIt hy; have HM3 := hideIt hm3; have HT3 := hideIt ht3; clear hm2 hkk hy hk2 hm3 ht3; cases y))
      all_goals go_wp2
      · exact bodyPost_end (results_none Tryz.results25 _ _ _) rfl ⟨rfl, D, (HG.out D).2 (.inr ⟨rfl, fun h => by have := HY.out.2 h.2.2; cases this⟩), HM2.out, HKK.out⟩
      · exact bodyPost_end (results_none Tryz.results25 _ _ _) rfl ⟨rfl, D.del (key p), (HG.out _).2 (.inl ⟨rfl, by first | rfl | trivial, HV.out, HY.out.1 (by first | rfl | trivial)⟩), HM3.out, (HKK.out.trans (Kept.of_turned HT3.out)).sub (by simp)⟩
    · rw [decide_eq_false hvf] at hpw
      have HV := hideIt hvf
      clear hvf
      go_enter Tryz.func25, Tryz.ntmps25
      go_wp2
      exact bodyPost_end (results_none Tryz.results25 _ _ _) rfl ⟨rfl, D, (HG.out D).2 (.inr ⟨rfl, fun h => HV.out h.2.1⟩), (HX.out W (Kept.refl _ _)).1, (HX.out W (Kept.refl _ _)).2.2⟩
/-- What is left when something gets another path: it has it, or it may not. -/
def MovesTo (D : DataW Value) (p to : ByteArray) (f : Option Addr) (D' : DataW Value) : Prop :=
  (D' = (if pv D p = f then D.del (key p) else D).put (key to) (.held (.pointer f)) ∧ folderB D (dirOf to) (pv D (dirOf to)) = true ∧ (folderB D to (pv D to) = false ∨ NoKids D to)) ∨
  (D' = D ∧ ¬ (folderB D (dirOf to) (pv D (dirOf to)) = true ∧ (folderB D to (pv D to) = false ∨ NoKids D to)))
set_option maxHeartbeats 1600000 in
set_option maxRecDepth 100000 in
theorem do_moves_gen {w : World} {b n : Nat} {D : DataW Value} (hm : NMap w b n D) (hn : n < 100000000) (hD : Ptrs D) (hkeys : ∀ l, Maps.has D (.string l) = true → l.length ≤ 1000) (p to : ByteArray) (hp : p.size ≤ 1000) (ht : to.size ≤ 1000) (f : Option Addr) (hpe : ∀ X, Kept [] w X → (binOp BinOp.eql 67 (.pointer (pv D p)) (.pointer f)).run Tryz.prog X = .ok (.bool (decide (pv D p = f))) X) :
    Calls Tryz.prog 25 #[.map (some b), .agg #[.int .i64 1, .string p, .string to, .pointer f]] w fun e w' => e = .returned (.tuple #[]) ∧ ∃ D', MovesTo D p to f D' ∧ NMap w' b (n + 1) D' ∧ Kept [b] w w' := by
  have hp' : p.size ≤ maxLen := by unfold maxLen; omega
  have ht' : to.size ≤ maxLen := by unfold maxLen; omega
  obtain ⟨W, hW⟩ : ∃ W, w.alloc (.cells #[.int .i64 1, .string p, .string to, .pointer f] 69) = W := ⟨_, rfl⟩
  have hk : Kept [] w W := by rw [← hW]; exact Kept.alloc _ _
  have hm' := hk.map hm (by simp)
  have hrow : W.heap[w.heap.size]? = some (.cells #[.int .i64 1, .string p, .string to, .pointer f] 69 (0, 0)) := by rw [← hW]; exact alloc_at rfl
  have c0 : W.cell? ⟨w.heap.size, 0, none⟩ = some (.int .i64 1) := cellAt hrow rfl
  have c1 : W.cell? ⟨w.heap.size, 1, none⟩ = some (.string p) := cellAt hrow rfl
  have c2 : W.cell? ⟨w.heap.size, 2, none⟩ = some (.string to) := cellAt hrow rfl
  have c3 : W.cell? ⟨w.heap.size, 3, none⟩ = some (.pointer f) := cellAt hrow rfl
  have hl := look_ok hm' p hp'
  rw [hD p] at hl
  have hds := dir_size to ht
  have HD := hideIt (fun X => folderOf_any to X (by omega))
  have HF : Hid (Calls Tryz.prog 46 #[.map (some b), .string (dirOf to)] W fun e w' => e = .returned (.bool (folderB D (dirOf to) (pv D (dirOf to)))) ∧ W = w') := hideIt ((folder_gen hm' (dirOf to) (by omega) _ (hD (dirOf to))).mono fun _ _ h => ⟨h.1, h.2.symm⟩)
  have HB := hideIt (bare_gen hm' to (by omega) _ (hD to) hkeys)
  have HX : Hid (∀ X, Kept [] W X → NMap X b n D ∧ X.cell? ⟨w.heap.size, 1, none⟩ = some (.string p) ∧ X.cell? ⟨w.heap.size, 2, none⟩ = some (.string to) ∧ X.cell? ⟨w.heap.size, 3, none⟩ = some (.pointer f) ∧ (binOp BinOp.eql 67 (.pointer (pv D p)) (.pointer f)).run Tryz.prog X = .ok (.bool (decide (pv D p = f))) X ∧ Kept [b] w X) := hideIt (fun X hX => ⟨hX.map hm' (by simp), cellAt (hX.fs hrow (by simp)) rfl, cellAt (hX.fs hrow (by simp)) rfl, cellAt (hX.fs hrow (by simp)) rfl, hpe X ((hk.trans hX).sub (by simp)), (hk.trans hX).sub (by simp)⟩)
  have hbw : b ≠ w.heap.size := by have := hm.lt; omega
  have HDR : Hid (∀ X, Kept [] W X → ∃ X', (∀ ty, (Builtin.delete_ #[50, 9] ty #[.map (some b), .string p]).run Tryz.prog X = .ok (.tuple #[]) X') ∧ NMap X' b n (D.del (key p)) ∧ X'.cell? ⟨w.heap.size, 2, none⟩ = some (.string to) ∧ X'.cell? ⟨w.heap.size, 3, none⟩ = some (.pointer f) ∧ Kept [b] w X') := hideIt (fun X hX => by
    obtain ⟨X', h1, h2, h3⟩ := (hX.map hm' (by simp)).drop (t := 50) kS Tryz.underlying50 (keyS p hp') 0
    have hr' := (Kept.of_turned h3).fs (hX.fs hrow (by simp)) (by simpa using fun e => hbw e.symm)
    exact ⟨X', fun ty => h1, h2, cellAt hr' rfl, cellAt hr' rfl, ((hk.trans hX).trans (Kept.of_turned h3)).sub (by simp)⟩)
  have HST : Hid (∀ X E, NMap X b n E → Kept [b] w X → ∃ X', (Instr.mapUpdate 50 (.map (some b)) (.string to) (.pointer f)).run Tryz.prog X = .ok () X' ∧ NMap X' b (n + 1) (E.put (key to) (.held (.pointer f))) ∧ Kept [b] w X') := hideIt (fun X E hE hX => by
    obtain ⟨X', h1, h2, h3⟩ := hE.store (t := 50) kS Tryz.underlying50 (by unfold maxLen; omega) (keyS to ht') (val := .pointer f) rfl
    exact ⟨X', h1, h2, (hX.trans (Kept.of_turned h3)).sub (by simp)⟩)
  have HM0 : Hid (∀ X, Kept [] W X → NMap X b (n + 1) D) := hideIt (fun X hX => (hX.map hm' (by simp)).mono (by omega))
  have HG : Hid (∀ D', MovesTo D p to f D' ↔ (D' = (if pv D p = f then D.del (key p) else D).put (key to) (.held (.pointer f)) ∧ folderB D (dirOf to) (pv D (dirOf to)) = true ∧ (folderB D to (pv D to) = false ∨ NoKids D to)) ∨ (D' = D ∧ ¬ (folderB D (dirOf to) (pv D (dirOf to)) = true ∧ (folderB D to (pv D to) = false ∨ NoKids D to)))) := hideIt (fun _ => Iff.rfl)
  generalize dirOf to = q at HD HF HG
  generalize folderB D q (pv D q) = y at HF HG
  generalize pv D p = v at hl HX HG
  generalize Maps.has D (key p) = z at hl
  have HKW := hideIt hk
  clear hk hm' hrow hm hD hkeys hpe
  cases y
  · go_enter Tryz.func25, Tryz.ntmps25
    go_wp2_with (first | (go_at_call 47; refine (HD.out _).mono ?_; rintro e w2 ⟨rfl, hw2⟩; obtain rfl := hw2.symm) | (go_at_call 46; refine HF.out.mono ?_; rintro e w2 ⟨rfl, hw2⟩; obtain rfl := hw2))
    exact bodyPost_ret (results_none Tryz.results25 _ _ _) rfl ⟨rfl, D, (HG.out D).2 (.inr ⟨rfl, by simp⟩), HM0.out _ (Kept.refl _ _), (HX.out _ (Kept.refl _ _)).2.2.2.2.2⟩
  · by_cases hvf : v = f
    · rw [decide_eq_true hvf] at HX
      have HV := hideIt hvf
      clear hvf
      go_enter Tryz.func25, Tryz.ntmps25
      go_wp2_with (first | (go_at_call 47; refine (HD.out _).mono ?_; rintro e w2 ⟨rfl, hw2⟩; obtain rfl := hw2.symm) | (go_at_call 46; refine HF.out.mono ?_; rintro e w2 ⟨rfl, hw2⟩; obtain rfl := hw2) | (go_at_call 48; refine HB.out.mono ?_; rintro e w2 ⟨y, rfl, hy, hk2⟩; obtain ⟨hm2, d1, d2, d3, hpq, hkk⟩ := HX.out w2 hk2; obtain ⟨w3, hdr, hm3, e2, e3, hk3⟩ := HDR.out w2 hk2; obtain ⟨w4, hst, hm4, hk4⟩ := HST.out w3 _ hm3 hk3; have HM2 := hideIt (HM0.out w2 hk2); have HKK := hideIt hkk; have HY := hideIt hy; have HM4 := hideIt hm4; have HK4 := hideIt hk4; clear hm2 hkk hy hk2 hm3 hk3 hm4 hk4; cases y))
      all_goals go_wp2
      · exact bodyPost_ret (results_none Tryz.results25 _ _ _) rfl ⟨rfl, D, (HG.out D).2 (.inr ⟨rfl, fun h => by have := HY.out.2 h.2; cases this⟩), HM2.out, HKK.out⟩
      · exact bodyPost_end (results_none Tryz.results25 _ _ _) rfl ⟨rfl, _, (HG.out _).2 (.inl ⟨by rw [if_pos HV.out], by first | rfl | trivial, HY.out.1 (by first | rfl | trivial)⟩), HM4.out, HK4.out⟩
    · rw [decide_eq_false hvf] at HX
      have HV := hideIt hvf
      clear hvf
      go_enter Tryz.func25, Tryz.ntmps25
      go_wp2_with (first | (go_at_call 47; refine (HD.out _).mono ?_; rintro e w2 ⟨rfl, hw2⟩; obtain rfl := hw2.symm) | (go_at_call 46; refine HF.out.mono ?_; rintro e w2 ⟨rfl, hw2⟩; obtain rfl := hw2) | (go_at_call 48; refine HB.out.mono ?_; rintro e w2 ⟨y, rfl, hy, hk2⟩; obtain ⟨hm2, d1, d2, d3, hpq, hkk⟩ := HX.out w2 hk2; obtain ⟨w4, hst, hm4, hk4⟩ := HST.out w2 _ hm2 hkk; have HM2 := hideIt (HM0.out w2 hk2); have HKK := hideIt hkk; have HY := hideIt hy; have HM4 := hideIt hm4; have HK4 := hideIt hk4; clear hm2 hkk hy hk2 hm4 hk4; cases y))
      all_goals go_wp2
      · exact bodyPost_ret (results_none Tryz.results25 _ _ _) rfl ⟨rfl, D, (HG.out D).2 (.inr ⟨rfl, fun h => by have := HY.out.2 h.2; cases this⟩), HM2.out, HKK.out⟩
      · exact bodyPost_end (results_none Tryz.results25 _ _ _) rfl ⟨rfl, _, (HG.out _).2 (.inl ⟨by rw [if_neg HV.out], by first | rfl | trivial, HY.out.1 (by first | rfl | trivial)⟩), HM4.out, HK4.out⟩
end Go.Proofs.YtknmmlfdlfioiaaGreatDoor.Vc
namespace Go.Proofs.YtknmmlfdlfioiaaGreatDoor.Vc
open Go.RowKit Go.Shelf Go.Maps
/-- Was it done in that folder? -/
def inB (k : Int) (p to q : ByteArray) : Bool := (dirOf p).toList == q.toList || (k == 1 && (dirOf to).toList == q.toList)
set_option maxHeartbeats 1600000 in
set_option maxRecDepth 100000 in
theorem in_gen (k : Int) (hk : k = 0 ∨ k = 1 ∨ k = 2) (p to q : ByteArray) (hp : p.size ≤ 1000) (ht : to.size ≤ 1000) (x : Option Addr) (w : World) :
    Calls Tryz.prog 70 #[.agg #[.int .i64 k, .string p, .string to, .pointer x], .string q] w fun e w' => e = .returned (.bool (inB k p to q)) ∧ Kept [] w w' := by
  have HD := hideIt (fun X => folderOf_any p X (by omega))
  have HT := hideIt (fun X => folderOf_any to X (by omega))
  have HB : Hid (inB k p to q = ((dirOf p).toList == q.toList || (k == 1 && (dirOf to).toList == q.toList))) := hideIt rfl
  generalize dirOf p = d at HD HB
  generalize dirOf to = g at HT HB
  obtain ⟨y, hy⟩ : ∃ y, (d.toList == q.toList) = y := ⟨_, rfl⟩
  obtain ⟨z, hz⟩ : ∃ z, (g.toList == q.toList) = z := ⟨_, rfl⟩
  rw [hy, hz] at HB
  rcases hk with rfl | rfl | rfl <;> cases y <;> cases z
  all_goals go_enter Tryz.func70, Tryz.ntmps70
  all_goals go_wp2_with (first | (go_at_call 47; first | (refine (HD.out _).mono ?_; rintro e w1 ⟨rfl, rfl⟩) | (refine (HT.out _).mono ?_; rintro e w1 ⟨rfl, rfl⟩)))
  all_goals go_ret
  all_goals exact ⟨by rw [HB.out]; rfl, Kept.alloc _ _⟩
set_option maxHeartbeats 400000 in
set_option maxRecDepth 100000 in
theorem del_gen (k : Int) (hk : k = 0 ∨ k = 1 ∨ k = 2) (p to q : ByteArray) (hp : p.size ≤ 1000) (ht : to.size ≤ 1000) (x : Option Addr) (w : World) (pb : Nat) (hc : w.cell? ⟨pb, 0, none⟩ = some (.string q)) (hlt : pb < w.heap.size) :
    Calls Tryz.prog 72 #[.agg #[.int .i64 k, .string p, .string to, .pointer x], .pointer (some ⟨pb, 0, none⟩)] w fun e w' => e = .returned (.bool (inB k p to q)) ∧ Kept [] w w' := by
  have HI := hideIt (in_gen k hk p to q hp ht x)
  clear hk
  go_enter Tryz.func72, Tryz.ntmps72
  go_wp2_with (first | (go_at_call 70; refine (HI.out _).mono ?_; rintro e w1 ⟨rfl, hk1⟩))
  go_ret
  exact ⟨rfl, ((Kept.alloc _ _).trans hk1).sub (by simp)⟩
end Go.Proofs.YtknmmlfdlfioiaaGreatDoor.Vc
namespace Go.Proofs.YtknmmlfdlfioiaaGreatDoor.Vc
open Go.RowKit Go.Shelf Go.Maps
/-- It answers yes or no. -/
def Bools (e : Ending) : Prop := ∃ y, e = .returned (.bool y)
set_option maxHeartbeats 800000 in
set_option maxRecDepth 100000 in
theorem kept_gen (i : Nat) (hi : i < 100000) (keep : Int) (w : World) (kb : Nat) (hc : w.cell? ⟨kb, 0, none⟩ = some (.int .u64 keep)) :
    Calls Tryz.prog 24 #[.int .i64 (i : Int), .pointer (some ⟨kb, 0, none⟩)] w fun e w' => Bools e ∧ w' = w := by
  by_cases hlt : i < 62
  · go_enter Tryz.func24, Tryz.ntmps24
    go_wp2
    go_ret
    exact ⟨⟨_, rfl⟩, rfl⟩
  · go_enter Tryz.func24, Tryz.ntmps24
    go_wp2
    go_ret
    exact ⟨⟨_, rfl⟩, rfl⟩
set_option maxHeartbeats 800000 in
set_option maxRecDepth 100000 in
theorem torn_gen {w : World} {xb num : Nat} {now sure : ByteArray} {links : Int} (hF : FileAt w xb num now sure links) (hn : now.size ≤ 100000) (hs : sure.size ≤ 100000) (n : Int) :
    Calls Tryz.prog 28 #[.pointer (some ⟨xb, 0, none⟩), .int .i64 n] w fun e w' => (∃ t : ByteArray, e = .returned (.string t) ∧ t.size ≤ 200000) ∧ Kept [] w w' := by
  have c1 : w.cell? ⟨xb, 1, none⟩ = some (.string now) := cellAt hF rfl
  have c2 : w.cell? ⟨xb, 2, none⟩ = some (.string sure) := cellAt hF rfl
  clear hF
  go_enter Tryz.func28, Tryz.ntmps28
  go_wp2
  obtain ⟨m, hm, hmn⟩ : ∃ m : Nat, min (max n 0) (now.size : Int) = (m : Int) ∧ m ≤ now.size := ⟨(min (max n 0) (now.size : Int)).toNat, by omega, by omega⟩
  simp only [hm]
  clear hm
  obtain ⟨j, hj, hjn⟩ : ∃ j : Nat, min (m : Int) (sure.size : Int) = (j : Int) ∧ j ≤ sure.size := ⟨min m sure.size, by omega, by omega⟩
  have b0 : (0 : Int) ≤ (j : Int) := by omega
  have b1 : (j : Int) ≤ (sure.size : Int) := by omega
  have b2 : ¬ 9223372036854775807 < m + (sure.size - j) := by omega
  have b3 : m + (sure.size - j) ≤ 9223372036854775807 := by omega
  go_region_held3 (fun X => X.cell? ⟨xb, 1, none⟩ = some (.string now) ∧ X.cell? ⟨xb, 2, none⟩ = some (.string sure)) (first | exact ⟨c1, c2⟩ | assumption) (fail)
  go_wp2
  go_ret
  exact ⟨⟨_, rfl, by simp [ByteArray.size_append, ByteArray.size_extract]; omega⟩, (Kept.refl _ _).drew⟩
end Go.Proofs.YtknmmlfdlfioiaaGreatDoor.Vc
namespace Go.Proofs.YtknmmlfdlfioiaaGreatDoor.Vc
open Go.RowKit Go.Shelf Go.Maps
variable {A : Nat → Prop} {pl : Value}
section
variable {w : World} {fb b n : Nat} {sv dv uv : Value} {came used room steps : Int} {dead : Bool} {D : DataW Value}
set_option maxHeartbeats 400000 in
set_option maxRecDepth 100000 in
theorem unlink_none (h : FsAt w fb (.map (some b)) sv dv uv came used room steps dead pl) (hm : NMap w b n D) (p : ByteArray) (hp : p.size ≤ 1000) (hv : valAt D (key p) = .pointer none) :
    Calls Tryz.prog 68 #[.pointer (some ⟨fb, 0, none⟩), .string p] w fun e w' => e = .returned (.tuple #[]) ∧ w' = w := by
  have hl := look_at hm p (by unfold maxLen; omega)
  rw [hv] at hl
  have c0 := fs0 h
  clear h hm hv
  go_enter Tryz.func68, Tryz.ntmps68
  go_wp2
  exact bodyPost_ret (results_none Tryz.results68 _ _ _) rfl ⟨rfl, rfl⟩
set_option maxHeartbeats 800000 in
set_option maxRecDepth 100000 in
theorem unlink_some (h : FsAt w fb (.map (some b)) sv dv uv came used room steps dead pl) (hm : NMap w b n D) (p : ByteArray) (hp : p.size ≤ 1000) {xb : Nat} {num links : Int} {now sure : ByteArray} (hv : valAt D (key p) = .pointer (some ⟨xb, 0, none⟩)) (hF : FileAt w xb num now sure links) (hfx : fb ≠ xb) :
    Calls Tryz.prog 68 #[.pointer (some ⟨fb, 0, none⟩), .string p] w fun e w' => e = .returned (.tuple #[]) ∧ ∃ u l, (u = used ∨ u = IntKind.i64.wrap (used - (now.size : Int))) ∧ FsAt w' fb (.map (some b)) sv dv uv came u room steps dead pl ∧ FileAt w' xb num now sure l ∧ Kept [fb, xb] w w' := by
  have hl := look_at hm p (by unfold maxLen; omega)
  rw [hv] at hl
  have c0 := fs0 h
  have x3 := fl3 hF
  have x3f := thawAt hF 3
  obtain ⟨l, hlk⟩ : ∃ l, IntKind.i64.wrap (links - 1) = l := ⟨_, rfl⟩
  have hF1 : FileAt (w.setCell ⟨xb, 3, none⟩ (.int .i64 l)) xb num now sure l := by
    unfold FileAt
    rw [heap_setCell_same w xb 3 _ 78 _ hF]
    rfl
  have hH1 : FsAt (w.setCell ⟨xb, 3, none⟩ (.int .i64 l)) fb (.map (some b)) sv dv uv came used room steps dead pl := (Kept.set xb 3 _).fs h (by simpa using hfx)
  have hk1 : Kept [fb, xb] w (w.setCell ⟨xb, 3, none⟩ (.int .i64 l)) := (Kept.set xb 3 _).sub (by simp)
  have y3 := fl3 hF1
  have y1 := fl1 hF1
  have y5 := fs5 hH1
  have y5f := thawAt hH1 5
  obtain ⟨u, hu⟩ : ∃ u, IntKind.i64.wrap (used - (now.size : Int)) = u := ⟨_, rfl⟩
  have HU := hideIt hu
  have HH1 := hideIt hH1
  have HF1 := hideIt hF1
  have HK1 := hideIt hk1
  have HP : Hid (∃ W, (w.setCell ⟨xb, 3, none⟩ (.int .i64 l)).setCell ⟨fb, 5, none⟩ (.int .i64 u) = W ∧ FsAt W fb (.map (some b)) sv dv uv came u room steps dead pl ∧ FileAt W xb num now sure l ∧ Kept [fb, xb] w W) := hideIt ⟨_, rfl, by
    unfold FsAt
    rw [heap_setCell_same _ fb 5 _ 54 _ hH1]
    rfl, (Kept.set fb 5 _).fs hF1 (by simpa using fun e => hfx e.symm), (hk1.trans (Kept.set fb 5 _)).sub (by simp)⟩
  clear h hm hv hF hF1 hH1 hk1
  by_cases hl0 : l = 0
  · subst hl0
    go_enter Tryz.func68, Tryz.ntmps68
    go_wp2
    go_region
    obtain ⟨W, hW, hWh, hWf, hWk⟩ := HP.out
    rw [hW]
    exact bodyPost_end (results_none Tryz.results68 _ _ _) rfl ⟨rfl, u, 0, .inr HU.out.symm, hWh, hWf, hWk.drew⟩
  · go_enter Tryz.func68, Tryz.ntmps68
    go_wp2
    exact bodyPost_end (results_none Tryz.results68 _ _ _) rfl ⟨rfl, used, l, .inl rfl, HH1.out, HF1.out, HK1.out⟩
end
end Go.Proofs.YtknmmlfdlfioiaaGreatDoor.Vc
namespace Go.Proofs.YtknmmlfdlfioiaaGreatDoor.Vc
open Go.RowKit Go.Shelf Go.Maps
variable {A : Nat → Prop} {pl : Value}
/-- Nothing but one block, and of files the links, is another one. -/
structure Tell (A : Nat → Prop) (fb : Nat) (w w' : World) : Prop where
  os : w'.os = w.os
  tape : w'.tape = w.tape
  output : w'.output = w.output
  size : w.heap.size ≤ w'.heap.size
  block : ∀ k, k < w.heap.size → k ≠ fb → w'.heap[k]? = w.heap[k]? ∨ (A k ∧ ∃ num now sure l l', FileAt w k num now sure l ∧ FileAt w' k num now sure l')
theorem Tell.of_kept {fb : Nat} {cs : List Nat} {w w' : World} (h : Kept cs w w') (hs : ∀ x ∈ cs, x = fb ∨ w.heap.size ≤ x) : Tell A fb w w' :=
  ⟨h.os, h.tape, h.output, h.size, fun k hk hn => .inl (h.block k hk (fun e => by rcases hs k e with e' | e' <;> omega))⟩
theorem Tell.refl (fb : Nat) (w : World) : Tell A fb w w := ⟨rfl, rfl, rfl, Nat.le_refl _, fun _ _ _ => .inl rfl⟩
theorem Tell.drew {fb : Nat} {w w' : World} (h : Tell A fb w w') : Tell A fb w w'.drew := ⟨h.os, h.tape, h.output, h.size, h.block⟩
theorem Tell.trans {fb : Nat} {a b c : World} (h : Tell A fb a b) (k : Tell A fb b c) : Tell A fb a c := by
  refine ⟨k.os.trans h.os, k.tape.trans h.tape, k.output.trans h.output, Nat.le_trans h.size k.size, fun i hi hn => ?_⟩
  rcases h.block i hi hn with h1 | ⟨hAk, num, now, sure, l, l', h1, h2⟩
  · rcases k.block i (Nat.lt_of_lt_of_le hi h.size) hn with k1 | ⟨hAk, num, now, sure, l, l', k1, k2⟩
    · exact .inl (k1.trans h1)
    · exact .inr ⟨hAk, num, now, sure, l, l', by unfold FileAt at k1 ⊢; rw [← h1, k1], k2⟩
  · rcases k.block i (Nat.lt_of_lt_of_le hi h.size) hn with k1 | ⟨hAk2, num2, now2, sure2, l2, l3, k1, k2⟩
    · exact .inr ⟨hAk, num, now, sure, l, l', h1, by unfold FileAt at h2 ⊢; rw [k1, h2]⟩
    · unfold FileAt at h2 k1
      rw [h2] at k1
      simp only [Option.some.injEq, Obj.cells.injEq, filev] at k1
      have e := k1.1
      simp at e
      obtain ⟨e1, e2, e3, e4⟩ := e
      subst e1 e2 e3
      exact .inr ⟨hAk, num, now, sure, l, l3, h1, k2⟩
/-- A file stays one: its number and its bytes are the same. -/
theorem Tell.file {fb : Nat} {w w' : World} (h : Tell A fb w w') {xb : Nat} {num links : Int} {now sure : ByteArray} (hF : FileAt w xb num now sure links) (hfx : fb ≠ xb) : ∃ l, FileAt w' xb num now sure l := by
  rcases h.block xb (block_lt hF) (fun e => hfx e.symm) with h1 | ⟨hAk, num2, now2, sure2, l, l', h1, h2⟩
  · exact ⟨links, by unfold FileAt at hF ⊢; rw [h1, hF]⟩
  · unfold FileAt at hF h1
    rw [hF] at h1
    simp only [Option.some.injEq, Obj.cells.injEq, filev] at h1
    have e := h1.1
    simp at e
    obtain ⟨e1, e2, e3, e4⟩ := e
    subst e1 e2 e3
    exact ⟨l', h2⟩
/-- What is no file is the same. -/
theorem Tell.same {fb : Nat} {w w' : World} (h : Tell A fb w w') {b : Nat} {o : Obj} (ho : w.heap[b]? = some o) (hb : b ≠ fb) (hno : ∀ arr, o ≠ .cells arr 78 (0, 0)) : w'.heap[b]? = some o := by
  rcases h.block b (block_lt ho) hb with h1 | ⟨hAk, num, now, sure, l, l', h1, h2⟩
  · rw [h1, ho]
  · unfold FileAt at h1
    rw [ho] at h1
    exact absurd (Option.some.inj h1) (hno _)
theorem Tell.set {fb : Nat} {w : World} {xb : Nat} {num links : Int} {now sure : ByteArray} (hF : FileAt w xb num now sure links) (l : Int) (hA : A xb) : Tell A fb w (w.setCell ⟨xb, 3, none⟩ (.int .i64 l)) := by
  have k := Kept.set (w := w) xb 3 (.int .i64 l)
  refine ⟨k.os, k.tape, k.output, k.size, fun i hi _ => ?_⟩
  by_cases e : i = xb
  · subst e
    exact .inr ⟨hA, num, now, sure, links, l, hF, by
      unfold FileAt
      rw [heap_setCell_same w i 3 _ 78 _ hF]
      rfl⟩
  · exact .inl (k.block i hi (by simpa using e))
/-- All that stands under names is nil, or a file. -/
def Files (A : Nat → Prop) (w : World) (fb : Nat) (D : DataW Value) : Prop := ∀ kl v, Maps.has D kl = true → (∀ zd, D.atKey kl zd = .held v) → v = .pointer none ∨ ∃ xb num now sure links, v = .pointer (some ⟨xb, 0, none⟩) ∧ fb ≠ xb ∧ FileAt w xb num now sure links ∧ now.size ≤ 100000000 ∧ A xb
theorem Files.tell {w w' : World} {fb : Nat} {D : DataW Value} (h : Files A w fb D) (ht : Tell A fb w w') : Files A w' fb D := fun kl v h1 h2 => by
  rcases h kl v h1 h2 with h3 | ⟨xb, num, now, sure, links, h3, h4, h5, h7⟩
  · exact .inl h3
  · obtain ⟨l, h6⟩ := ht.file h5 h4
    exact .inr ⟨xb, num, now, sure, l, h3, h4, h6, h7⟩
end Go.Proofs.YtknmmlfdlfioiaaGreatDoor.Vc
namespace Go.Proofs.YtknmmlfdlfioiaaGreatDoor.Vc
open Go.RowKit Go.Shelf Go.Maps
variable {A : Nat → Prop} {pl : Value}
theorem Tell.kept {fb : Nat} {cs : List Nat} {a b c : World} (h : Tell A fb a b) (k : Kept cs b c) (hs : ∀ x ∈ cs, x = fb ∨ a.heap.size ≤ x) : Tell A fb a c := by
  refine ⟨k.os.trans h.os, k.tape.trans h.tape, k.output.trans h.output, Nat.le_trans h.size k.size, fun i hi hn => ?_⟩
  have e := k.block i (Nat.lt_of_lt_of_le hi h.size) (fun e => by rcases hs i e with e' | e' <;> omega)
  rcases h.block i hi hn with h1 | ⟨hAk, num, now, sure, l, l', h1, h2⟩
  · exact .inl (e.trans h1)
  · exact .inr ⟨hAk, num, now, sure, l, l', h1, by unfold FileAt at h2 ⊢; rw [e, h2]⟩
theorem anyE_eq {v : Value} {a : DataW Value} {b : List MemPlace} (h : anyE v = some (a, b)) : a = .held v := by
  unfold anyE at h
  simp at h
  exact h.1.symm
/-- All files under names have at most so many bytes. -/
def SzM (M : Nat) (w : World) (D : DataW Value) : Prop := ∀ (kl : Lit) (xb : Nat), Maps.has D kl = true → (∀ zd, D.atKey kl zd = .held (.pointer (some ⟨xb, 0, none⟩))) → ∀ (num : Int) (now sure : ByteArray) (links : Int), FileAt w xb num now sure links → now.size ≤ M
theorem mul_step {M a b : Nat} (h : a < b) : (M : Int) * (a : Int) + (M : Int) ≤ (M : Int) * (b : Int) := by
  have h1 : M * (a + 1) ≤ M * b := Nat.mul_le_mul_left M h
  rw [Nat.mul_add, Nat.mul_one] at h1
  have h2 : ((M * a + M : Nat) : Int) ≤ ((M * b : Nat) : Int) := by omega
  simpa using h2
theorem mul_nn (M a : Nat) : (0 : Int) ≤ (M : Int) * (a : Int) := by
  have : ((M * a : Nat) : Int) = (M : Int) * (a : Int) := by simp
  omega
set_option maxHeartbeats 1600000 in
set_option maxRecDepth 100000 in
theorem count_gen {w : World} {fb nb n : Nat} {sv dv uv : Value} {came used room steps : Int} {dead : Bool} {D : DataW Value} (h : FsAt w fb (.map (some nb)) sv dv uv came used room steps dead pl) (hm : NMap w nb n D) (hf : Files A w fb D) (hn : n < 4000000) :
    Calls Tryz.prog 30 #[.pointer (some ⟨fb, 0, none⟩)] w fun e w' => e = .returned (.tuple #[]) ∧ ∃ u, 0 ≤ u ∧ u ≤ 100000000 * (n : Int) ∧ (∀ M : Nat, SzM M w D → u ≤ (M : Int) * (Maps.size D : Int)) ∧ FsAt w' fb (.map (some nb)) sv dv uv came u room steps dead pl ∧ NMap w' nb n D ∧ Tell A fb w w' := by
  have c0 := fs0 h
  have HF := hideIt hf
  have HSZ : Hid (Maps.size D ≤ n) := hideIt hm.size_le
  have HH := hideIt h
  have HM := hideIt hm
  have HL : Hid (fb < w.heap.size) := hideIt (block_lt h)
  clear h hm hf
  go_enter Tryz.func30, Tryz.ntmps30
  go_wp2_with (first | (at_range; refine wpList_range_own _ rfl _ 50 rfl 9 67 kS Tryz.underlying50 anyE nb n _ rfl HM.out ?_; intro w1 hrg1 hg1 hs1))
  go_frame
  have hkA : Kept [] w w1 := Kept.of_grown hg1
  have htA : Tell A fb w w1 := Tell.of_kept hkA (by simp)
  have hhA : FsAt w1 fb (.map (some nb)) sv dv uv came used room steps dead pl := hkA.fs HH.out (by simp)
  go_loopw [3] (fun _ wr => ∃ left cnt, wr.ranges Tryz.prog 9 anyE nb w.heap.size n D left cnt ∧ Tell A fb w wr ∧ FsAt wr fb (.map (some nb)) sv dv uv came used room steps dead pl) (fun _ wr => wr.rangeLeft nb w.heap.size)
  case atStart => exact ⟨_, _, hrg1, htA, hhA⟩
  case round =>
    obtain ⟨left, cnt, hrg, htl, hhr⟩ := hrel
    have HT := hideIt htl
    have HR := hideIt hhr
    clear htl hhr
    go_wp2_with (first | (at_next; refine wpList_next_ranges _ rfl _ rfl 9 kS anyE Value.string (fun v => v) keyS_inv (fun v _ _ => ⟨v, rfl⟩) nb _ n _ _ _ rfl hrg ?_ ?_))
    · intro hz hleft
      have hmr : NMap wr nb n D := hrg.owns
      have hhr := HR.out
      have r5 := fs5 hhr
      have r5f := thawAt hhr 5
      have hH4 : FsAt (wr.setCell ⟨fb, 5, none⟩ (.int .i64 0)) fb (.map (some nb)) sv dv uv came 0 room steps dead pl := by
        unfold FsAt
        rw [heap_setCell_same wr fb 5 _ 54 _ hhr]
        rfl
      have HM4 : Hid (NMap (wr.setCell ⟨fb, 5, none⟩ (.int .i64 0)) nb n D) := hideIt ((Kept.set fb 5 _).map hmr (by simpa using fun e => file_ne_map hhr hmr e.symm))
      have HT4 : Hid (Tell A fb w (wr.setCell ⟨fb, 5, none⟩ (.int .i64 0))) := hideIt (HT.out.kept (Kept.set fb 5 _) (by simp))
      have HH4 := hideIt hH4
      have c04 := fs0 hH4
      have hsz4 : (wr.setCell ⟨fb, 5, none⟩ (.int .i64 0)).heap.size = wr.heap.size := by simp [World.setCell]
      clear hH4 hmr hhr hrg hz hleft hrg1 hg1 hs1 hkA htA hhA c0
      go_wp2_with (first | (at_range; refine wpList_range_own _ rfl _ 50 rfl 9 67 kS Tryz.underlying50 anyE nb n _ rfl HM4.out ?_; intro w6 hrg6 hg6 hs6))
      go_frame
      have hkB := Kept.of_grown hg6
      have htB : Tell A fb w w6 := HT4.out.kept hkB (by simp)
      have hhB : FsAt w6 fb (.map (some nb)) sv dv uv came 0 room steps dead pl := hkB.fs HH4.out (by simp)
      have HL4 : Hid (fb < wr.heap.size) := hideIt (Nat.lt_of_lt_of_le HL.out HT.out.size)
      have HS4 : Hid (w.heap.size ≤ wr.heap.size) := hideIt HT.out.size
      rw [hsz4] at hrg6 ⊢
      clear hkB hg6 hs6 hsz4 HM4 HT4 HH4 HT HR r5 r5f c04
      generalize wr.heap.size = r at hrg6 HL4 HS4 ⊢
      go_loopw [5] (fun _ wt => ∃ (u : Int) (left : Lit → Bool) (cnt : Nat), (0 ≤ u ∧ u + 100000000 * (cnt : Int) ≤ 100000000 * (n : Int) ∧ ∀ M : Nat, SzM M w D → u + (M : Int) * (cnt : Int) ≤ (M : Int) * (Maps.size D : Int)) ∧ wt.ranges Tryz.prog 9 anyE nb r n D left cnt ∧ Tell A fb w wt ∧ FsAt wt fb (.map (some nb)) sv dv uv came u room steps dead pl) (fun _ wt => wt.rangeLeft nb r)
      case atStart =>
        refine ⟨0, _, _, ⟨by omega, ?_, fun M _ => by rw [Int.zero_add]; exact Int.le_refl _⟩, hrg6, htB, hhB⟩
        have := HSZ.out
        omega
      case round =>
        obtain ⟨u, left, cnt, hub, hrg, htl, hhr⟩ := hrel
        have HUB := hideIt hub
        clear hub
        have HT := hideIt htl
        have HR := hideIt hhr
        clear htl hhr hrg6 htB hhB
        go_wp2_with (first | (at_next; refine wpList_next_ranges _ rfl _ rfl 9 kS anyE Value.string (fun v => v) keyS_inv (fun v _ _ => ⟨v, rfl⟩) nb _ n _ _ _ rfl hrg ?_ ?_))
        · intro hz hleft
          have HE := hideIt (hrg.owns : NMap wr nb n D)
          clear hrg hz hleft
          go_wp2
          exact bodyPost_end (results_none Tryz.results30 _ _ _) rfl ⟨rfl, u, HUB.out.1, by have := HUB.out.2.1; omega, fun M hM => by have := HUB.out.2.2 M hM; have := mul_nn M cnt; omega, HR.out, HE.out, HT.out⟩
        · intro x v kl y1 y2 w2 cnt2 hkx hlx hvy hat hrg2 hlt2 hg2 hs2 hen2
          have ht2 : Tell A fb w w2 := HT.out.kept (Kept.of_grown hg2) (by have := HS4.out; simp; omega)
          have hh2 := (Kept.of_grown hg2).fs HR.out (by have := HL4.out; simp; omega)
          have HME : Hid (w2.rangeLeft nb r < wr.rangeLeft nb r) := hideIt (by rw [hrg2.left_eq, hrg.left_eq]; exact hlt2)
          have hv := HF.out kl v (Maps.has_true_of_atKey hat) (fun zd => (hat zd).trans (anyE_eq hvy))
          have HT2 := hideIt ht2
          have HH2 := hideIt hh2
          have HRG := hideIt hrg2
          have HLT : Hid (cnt2 < cnt) := hideIt hlt2
          rcases hv with rfl | ⟨xb, num, now, sure, links, rfl, hfx, hF0, hns, hAx⟩
          · clear hrg2 hg2 hs2 hat hvy hlx hkx ht2 hh2 hlt2 hrg
            go_wp2
            go_roundw
            case rel => exact ⟨_, _, _, ⟨HUB.out.1, by have := HUB.out.2.1; have := HLT.out; omega, fun M hM => by have := HUB.out.2.2 M hM; have := mul_step (M := M) HLT.out; omega⟩, HRG.out, HT2.out, HH2.out⟩
            case measure => exact HME.out
          · have HSM : Hid (∀ M : Nat, SzM M w D → now.size ≤ M) := hideIt (fun M hM => hM kl xb (Maps.has_true_of_atKey hat) (fun zd => (hat zd).trans (anyE_eq hvy)) num now sure links hF0)
            obtain ⟨l2, hF2⟩ := ht2.file hF0 hfx
            have x1 := fl1 hF2
            have x3 := fl3 hF2
            have x3f := thawAt hF2 3
            have y5 := fs5 hh2
            have y5f := thawAt hh2 5
            have hne2 := ranges_ne hrg2 hF2
            have hnf2 := ranges_ne hrg2 hh2
            by_cases hl0 : l2 = 0
            · subst hl0
              obtain ⟨u', hu'⟩ : ∃ u', IntKind.i64.wrap (u + (now.size : Int)) = u' := ⟨_, rfl⟩
              have HUU : Hid (u' = u + (now.size : Int)) := hideIt (by have := HUB.out.1; have := HUB.out.2.1; rw [← hu', IntKind.wrap_i64]; omega)
              have HNS := hideIt hns
              clear hns
              have hF5 : FileAt (w2.setCell ⟨fb, 5, none⟩ (.int .i64 u')) xb num now sure 0 := (Kept.set fb 5 _).fs hF2 (by simpa using fun e => hfx e.symm)
              have hH5 : FsAt (w2.setCell ⟨fb, 5, none⟩ (.int .i64 u')) fb (.map (some nb)) sv dv uv came u' room steps dead pl := by
                unfold FsAt
                rw [heap_setCell_same w2 fb 5 _ 54 _ hh2]
                rfl
              have hrg5 := (Kept.set (w := w2) fb 5 (.int .i64 u')).ranges hrg2 (by simpa using fun e => hnf2.1 e.symm) (by simpa using fun e => hnf2.2 e.symm)
              have hrg3 := ranges_drew ((Kept.set (w := w2.setCell ⟨fb, 5, none⟩ (.int .i64 u')) xb 3 (.int .i64 1)).ranges hrg5 (by simpa using fun e => hne2.1 e.symm) (by simpa using fun e => hne2.2 e.symm))
              have HRG3 := hideIt hrg3
              have HME3 : Hid (((w2.setCell ⟨fb, 5, none⟩ (.int .i64 u')).setCell ⟨xb, 3, none⟩ (.int .i64 1)).drew.rangeLeft nb r < wr.rangeLeft nb r) := hideIt (by rw [hrg3.left_eq, hrg.left_eq]; exact hlt2)
              have HT3 := hideIt (((ht2.kept (Kept.set fb 5 (.int .i64 u')) (by simp)).trans (Tell.set hF5 1 hAx)).drew)
              have HH3 : Hid (FsAt ((w2.setCell ⟨fb, 5, none⟩ (.int .i64 u')).setCell ⟨xb, 3, none⟩ (.int .i64 1)).drew fb (.map (some nb)) sv dv uv came u' room steps dead pl) := hideIt ((Kept.set (w := w2.setCell ⟨fb, 5, none⟩ (.int .i64 u')) xb 3 (.int .i64 1)).fs hH5 (by simpa using hfx))
              have z3 := fl3 hF5
              have z3f := thawAt hF5 3
              clear hrg2 hg2 hs2 hat hvy hlx hkx ht2 hh2 hlt2 hrg hrg3 hrg5 hF0 hF2 hne2 hnf2 hF5 hH5
              go_wp2
              go_region
              go_wp2
              go_roundw
              case rel => exact ⟨_, _, _, ⟨by have := HUB.out.1; have := HUU.out; omega, by have := HUB.out.2.1; have := HLT.out; have := HUU.out; have := HNS.out; omega, fun M hM => by have := HUB.out.2.2 M hM; have := mul_step (M := M) HLT.out; have := HUU.out; have := HSM.out M hM; omega⟩, HRG3.out, HT3.out, HH3.out⟩
              case measure => exact HME3.out
            · obtain ⟨l3, hl3⟩ : ∃ l3, IntKind.i64.wrap (l2 + 1) = l3 := ⟨_, rfl⟩
              have hrg3 := (Kept.set (w := w2) xb 3 (.int .i64 l3)).ranges hrg2 (by simpa using fun e => hne2.1 e.symm) (by simpa using fun e => hne2.2 e.symm)
              have HRG3 := hideIt hrg3
              have HME3 : Hid ((w2.setCell ⟨xb, 3, none⟩ (.int .i64 l3)).rangeLeft nb r < wr.rangeLeft nb r) := hideIt (by rw [hrg3.left_eq, hrg.left_eq]; exact hlt2)
              have HT3 := hideIt (ht2.trans (Tell.set hF2 l3 hAx))
              have HH3 := hideIt ((Kept.set (w := w2) xb 3 (.int .i64 l3)).fs hh2 (by simpa using hfx))
              clear hrg2 hg2 hs2 hat hvy hlx hkx ht2 hh2 hlt2 hrg hrg3 hF0 hF2 hne2 hnf2
              go_wp2
              go_roundw
              case rel => exact ⟨_, _, _, ⟨HUB.out.1, by have := HUB.out.2.1; have := HLT.out; omega, fun M hM => by have := HUB.out.2.2 M hM; have := mul_step (M := M) HLT.out; omega⟩, HRG3.out, HT3.out, HH3.out⟩
              case measure => exact HME3.out
    · intro x v kl y1 y2 w2 cnt2 hkx hlx hvy hat hrg2 hlt2 hg2 hs2 hen2
      have ht2 : Tell A fb w w2 := HT.out.kept (Kept.of_grown hg2) (by simp)
      have hh2 := (Kept.of_grown hg2).fs HR.out (by have := HL.out; simp; omega)
      have hmeas : w2.rangeLeft nb w.heap.size < wr.rangeLeft nb w.heap.size := by rw [hrg2.left_eq, hrg.left_eq]; exact hlt2
      have hv := HF.out kl v (Maps.has_true_of_atKey hat) (fun zd => (hat zd).trans (anyE_eq hvy))
      have HT2 := hideIt ht2
      have HH2 := hideIt hh2
      have HRG := hideIt hrg2
      have HME := hideIt hmeas
      rcases hv with rfl | ⟨xb, num, now, sure, links, rfl, hfx, hF0, hns, hAx⟩
      · clear hrg2 hg2 hs2 hat hvy hlx hkx ht2 hh2 hmeas hlt2 hrg
        go_wp2
        go_roundw
        case rel => exact ⟨_, _, HRG.out, HT2.out, HH2.out⟩
        case measure => exact HME.out
      · obtain ⟨l2, hF2⟩ := ht2.file hF0 hfx
        have x3 := fl3 hF2
        have x3f := thawAt hF2 3
        have hne2 := ranges_ne hrg2 hF2
        have hrg3 := (Kept.set (w := w2) xb 3 (.int .i64 0)).ranges hrg2 (by simpa using fun e => hne2.1 e.symm) (by simpa using fun e => hne2.2 e.symm)
        have HRG3 := hideIt hrg3
        have HME3 : Hid ((w2.setCell ⟨xb, 3, none⟩ (.int .i64 0)).rangeLeft nb w.heap.size < wr.rangeLeft nb w.heap.size) := hideIt (by rw [hrg3.left_eq, hrg.left_eq]; exact hlt2)
        have HT3 := hideIt (ht2.trans (Tell.set hF2 0 hAx))
        have HH3 := hideIt ((Kept.set (w := w2) xb 3 (.int .i64 0)).fs hh2 (by simpa using hfx))
        clear hrg2 hg2 hs2 hat hvy hlx hkx ht2 hh2 hmeas hlt2 hrg hrg3 hF0 hF2
        go_wp2
        go_roundw
        case rel => exact ⟨_, _, HRG3.out, HT3.out, HH3.out⟩
        case measure => exact HME3.out
end Go.Proofs.YtknmmlfdlfioiaaGreatDoor.Vc
namespace Go.Proofs.YtknmmlfdlfioiaaGreatDoor.Vc
open Go.RowKit Go.Shelf Go.Maps
variable {B0 : Nat} {A : Nat → Prop} {pl : Value}
set_option maxHeartbeats 800000 in
set_option maxRecDepth 100000 in
theorem enact_gen {w : World} {fb b n k : Nat} {D : DataW Value} {sure done unsure : Value} {came used room steps : Int} {dead : Bool} {xs : List Value} (h : FsAt w fb (.map (some b)) sure done unsure came used room steps dead pl) (hm : NMap w b n D)
    (hr : w.ownsRow B0 69 4 done k xs) (hB : B0 ≤ w.heap.size) (hk : k < 1000000) (ki : Int) (p to : ByteArray) (x : Option Addr) (P : DataW Value → Prop) (m : Nat)
    (hdo : ∀ X, Kept [] w X → Calls Tryz.prog 25 #[.map (some b), .agg #[.int .i64 ki, .string p, .string to, .pointer x]] X fun e w' => e = .returned (.tuple #[]) ∧ ∃ D', P D' ∧ NMap w' b m D' ∧ Kept [b] X w') :
    Calls Tryz.prog 65 #[.pointer (some ⟨fb, 0, none⟩), .agg #[.int .i64 ki, .string p, .string to, .pointer x]] w fun e w' => e = .returned (.tuple #[]) ∧ ∃ D', P D' ∧ ∃ done', (∀ g, done'.ownBlock = some g → done.ownBlock = some g ∨ w.heap.size ≤ g) ∧ FsAt w' fb (.map (some b)) sure done' unsure came used room steps dead pl ∧
      NMap w' b m D' ∧ w'.ownsRow B0 69 4 done' (k + 1) (xs ++ [.int .i64 ki, .string p, .string to, .pointer x]) ∧ Kept (b :: fb :: done.ownBlock.toList) w w' := by
  obtain ⟨i0, hi0, hz0, hz1, hz2⟩ := info_parts infoA
  obtain ⟨W, hW⟩ : ∃ W, w.alloc (.cells #[.int .i64 ki, .string p, .string to, .pointer x] 69) = W := ⟨_, rfl⟩
  have hkW : Kept [] w W := by rw [← hW]; exact Kept.alloc _ _
  have hf := hkW.fs h (by simp)
  have hm' := hkW.map hm (by simp)
  have hr' := hkW.row hr (by simp)
  have hbf := file_ne_map hf hm'
  have hrow : W.heap[w.heap.size]? = some (.cells #[.int .i64 ki, .string p, .string to, .pointer x] 69 (0, 0)) := by rw [← hW]; exact alloc_at rfl
  have c0 : W.cell? ⟨w.heap.size, 0, none⟩ = some (.int .i64 ki) := cellAt hrow rfl
  have c1 : W.cell? ⟨w.heap.size, 1, none⟩ = some (.string p) := cellAt hrow rfl
  have c2 : W.cell? ⟨w.heap.size, 2, none⟩ = some (.string to) := cellAt hrow rfl
  have c3 : W.cell? ⟨w.heap.size, 3, none⟩ = some (.pointer x) := cellAt hrow rfl
  have d0 := fs0 hf
  have HD : Hid (∀ X, Same W X → Calls Tryz.prog 25 #[.map (some b), .agg #[.int .i64 ki, .string p, .string to, .pointer x]] X fun e w' => e = .returned (.tuple #[]) ∧ ∃ D', P D' ∧ NMap w' b m D' ∧ Kept [b] W w') := hideIt (fun X hX =>
    (hdo X ((hkW.trans hX.kept).sub (by simp))).mono fun _ _ ⟨h1, D', h0, h2, h3⟩ => ⟨h1, D', h0, h2, (hX.kept.trans h3).sub (by simp)⟩)
  have hlt : w.heap.size < W.heap.size := block_lt hrow
  have hbw := block_lt h
  have hbm : b < w.heap.size := hm.lt
  have hrl := hr.lt
  have HN : Hid (∀ w1, Kept [b] W w1 → FsAt w1 fb (.map (some b)) sure done unsure came used room steps dead pl ∧ w1.ownsRow B0 69 4 done k xs ∧ w1.heap[w.heap.size]? = some (.cells #[.int .i64 ki, .string p, .string to, .pointer x] 69 (0, 0))) := hideIt (fun w1 hk1 =>
    ⟨hk1.fs hf (by simpa using hbf), hk1.row hr' (fun g hg => by
      obtain ⟨es, c, h1, _⟩ := hm'
      have := row_ne hr' h1 (fun cur => by simp) g hg
      simpa using this), hk1.fs hrow (by simp; omega)⟩)
  have HS : Hid (∀ X, Kept [b] W X → X.cell? ⟨fb, 0, none⟩ = some (.map (some b)) ∧ X.cell? ⟨w.heap.size, 0, none⟩ = some (.int .i64 ki) ∧ X.cell? ⟨w.heap.size, 1, none⟩ = some (.string p) ∧ X.cell? ⟨w.heap.size, 2, none⟩ = some (.string to) ∧ X.cell? ⟨w.heap.size, 3, none⟩ = some (.pointer x)) := hideIt (fun X hX =>
    ⟨fs0 (HN.out X hX).1, cellAt (HN.out X hX).2.2 rfl, cellAt (HN.out X hX).2.2 rfl, cellAt (HN.out X hX).2.2 rfl, cellAt (HN.out X hX).2.2 rfl⟩)
  have HKW := hideIt hkW
  clear h hm hr hkW hf hm' hr' hrow hdo
  go_enter Tryz.func65, Tryz.ntmps65
  go_wp2
  go_region_held3 (fun X => X.cell? ⟨fb, 0, none⟩ = some (.map (some b)) ∧ X.cell? ⟨w.heap.size, 0, none⟩ = some (.int .i64 ki) ∧ X.cell? ⟨w.heap.size, 1, none⟩ = some (.string p) ∧ X.cell? ⟨w.heap.size, 2, none⟩ = some (.string to) ∧ X.cell? ⟨w.heap.size, 3, none⟩ = some (.pointer x)) (first | exact ⟨d0, c0, c1, c2, c3⟩ | exact HS.out _ (by assumption) | assumption) (first | (go_at_call 25; refine (HD.out _ (by exact ⟨rfl, rfl, rfl, rfl⟩)).mono ?_; rintro e w1 ⟨rfl, D', hP, hm1, hk1⟩))
  obtain ⟨hf1, hr1, hrow1⟩ := HN.out w1 hk1
  have e2 := fs2 hf1
  have l1 : fb < w1.heap.size := block_lt hf1
  have l2 : w.heap.size < w1.heap.size := block_lt hrow1
  have lB : B0 ≤ w1.heap.size := by omega
  have a0 : w1.cell? ⟨w.heap.size, 0, none⟩ = some (.int .i64 ki) := cellAt hrow1 rfl
  have a1 : w1.cell? ⟨w.heap.size, 1, none⟩ = some (.string p) := cellAt hrow1 rfl
  have a2 : w1.cell? ⟨w.heap.size, 2, none⟩ = some (.string to) := cellAt hrow1 rfl
  have a3 : w1.cell? ⟨w.heap.size, 3, none⟩ = some (.pointer x) := cellAt hrow1 rfl
  have HG : Hid (∀ (o : Obj) w2, (w1.alloc o).drew.grownBy w2 done.ownBlock → FsAt w2 fb (.map (some b)) sure done unsure came used room steps dead pl ∧ NMap w2 b m D' ∧ Kept (b :: fb :: done.ownBlock.toList) w w2) := hideIt (fun o w2 hg => by
    have hne1 := row_ne hr1 hf1 (fun cur => by simp)
    have hne2 : ∀ g, done.ownBlock = some g → g ≠ b := by
      obtain ⟨es, c, h1, _⟩ := hm1
      exact row_ne hr1 h1 (fun cur => by simp)
    have hk2 : Kept done.ownBlock.toList w1 w2 := ((Kept.alloc w1 o).drew.trans (Kept.of_grown hg)).sub (by simp)
    have m1 : fb ∉ done.ownBlock.toList := by
      cases hob : done.ownBlock with
      | none => simp
      | some g => simp; exact fun e => hne1 g hob e.symm
    have m2 : b ∉ done.ownBlock.toList := by
      cases hob : done.ownBlock with
      | none => simp
      | some g => simp; exact fun e => hne2 g hob e.symm
    refine ⟨hk2.fs hf1 m1, hk2.map hm1 m2, ?_⟩
    exact ((HKW.out.trans hk1).trans hk2).sub (by simp; exact fun y hy => Or.inr (Or.inr hy)))
  have HR := hideIt hr1
  have HPP := hideIt hP
  clear hf1 hr1 hrow1 hm1 hk1 hP
  go_wp2
  go_region_law (refine step_append_lies _ (by rfl) _ _ 51 (by rfl) B0 69 i0 _ 4 48 Tryz.underlying51 hi0 hz0 hz1 hz2 rfl (by decide) done k xs (by rfl) (HR.out.drew.alloc _) ⟨w1.heap.size, 0, none⟩ 1 1 [.int .i64 ki, .string p, .string to, .pointer x] (by rfl) rfl (act_cells ki p to (.pointer x)) (act_one ki p to x) (by decide) (by unfold maxLen; omega) (by omega) (by simp; omega) (w1.heap.size + 1) (by simp) ?_; intro g' vc w2 hown2 hg2 hat2 hlt2; obtain ⟨t1, t2, t3⟩ := HG.out _ _ hg2; have s2 := fs2 t1; have s3 := thawAt t1 2; have HAT := hideIt hat2; clear hat2)
  all_goals exact bodyPost_end (results_none Tryz.results65 _ _ _) rfl ⟨rfl, D', HPP.out, enact_end t1 t2 t3 hown2 (fun g hg => by
    simp [Value.ownBlock] at hg
    subst hg
    rcases HAT.out with h | h
    · exact .inl h
    · exact .inr (by omega))⟩
end Go.Proofs.YtknmmlfdlfioiaaGreatDoor.Vc
namespace Go.Proofs.YtknmmlfdlfioiaaGreatDoor.Vc
open Go.RowKit Go.Shelf Go.Maps
variable {A : Nat → Prop} {pl : Value}
section
variable {w : World} {fb b n : Nat} {sv dv uv : Value} {came used room steps : Int} {dead : Bool} {D : DataW Value}
/-- What is told of the file under a path: it, or why there is none. -/
def fileR (z : Bool) (v : Option Addr) : Value := if z then (match v with
  | none => .tuple #[.pointer none, .int .i64 31]
  | some a => .tuple #[.pointer (some a), .int .i64 0]) else .tuple #[.pointer none, .int .i64 2]
set_option maxHeartbeats 400000 in
set_option maxRecDepth 100000 in
theorem file_gen (h : FsAt w fb (.map (some b)) sv dv uv came used room steps dead pl) (hm : NMap w b n D) (p : ByteArray) (hp : p.size ≤ 1000) (v : Option Addr) (hv : valAt D (key p) = .pointer v) :
    Calls Tryz.prog 55 #[.pointer (some ⟨fb, 0, none⟩), .string p] w fun e w' => e = .returned (fileR (Maps.has D (key p)) v) ∧ w' = w := by
  have hl := look_ok hm p (by unfold maxLen; omega)
  rw [hv] at hl
  have c0 := fs0 h
  generalize Maps.has D (key p) = z at hl
  clear h hm hv
  cases z <;> cases v
  all_goals go_enter Tryz.func55, Tryz.ntmps55
  all_goals go_wp2
  all_goals go_ret2
  all_goals exact ⟨rfl, rfl⟩
set_option maxHeartbeats 400000 in
set_option maxRecDepth 100000 in
theorem hindered_dead (h : FsAt w fb (.map (some b)) sv dv uv came used room steps true pl) (v : Value) :
    Calls Tryz.prog 54 #[.pointer (some ⟨fb, 0, none⟩), v] w fun e w' => e = .returned (.int .i64 7) ∧ w' = w := by
  have HD := hideIt (dead_any h)
  clear h
  go_enter Tryz.func54, Tryz.ntmps54
  go_wp2_with (first | (go_at_call 8; refine HD.out.mono ?_; rintro e wx ⟨rfl, hwx⟩; obtain rfl := hwx.symm))
  go_ret
  exact ⟨rfl, rfl⟩
end
end Go.Proofs.YtknmmlfdlfioiaaGreatDoor.Vc
namespace Go.Proofs.YtknmmlfdlfioiaaGreatDoor.Vc
open Go.RowKit Go.Shelf Go.Maps
variable {A : Nat → Prop} {pl : Value}
def errTwo (p q : ByteArray) : Int := if pathL p.data.toList then errPath q else 30
set_option maxHeartbeats 800000 in
set_option maxRecDepth 100000 in
theorem hindered_two {w : World} {fb : Nat} {now sure done unsure : Value} {came used room steps : Int} (h : FsAt w fb now sure done unsure came used room steps false pl) (hm : MaxAt w) (p q : ByteArray) (hp : p.size ≤ 140737488355328) (hq : q.size ≤ 140737488355328) (sb : Nat) (t : TypeId)
    (hrow : w.heap[sb]? = some (.cells #[.string p, .string q] t (0, 0))) :
    Calls Tryz.prog 54 #[.pointer (some ⟨fb, 0, none⟩), .slice (some ⟨sb, 0, none⟩) 2 2] w fun e w' => e = .returned (.int .i64 (errTwo p q)) ∧ Kept [] w w' := by
  have HD := hideIt (dead_any h)
  have HP := hideIt (path_any p w hm hp)
  have HQ := hideIt (fun X (hX : Kept [] w X) => path_any q X (hX.max hm (by simp)) hq)
  have c0 := cellAt (i := 0) hrow rfl
  have c1 := cellAt (i := 1) hrow rfl
  have HC : Hid (∀ X, Kept [] w X → X.cell? ⟨sb, 1, none⟩ = some (.string q)) := hideIt (fun X hX => cellAt (i := 1) (hX.fs hrow (by simp)) rfl)
  have HE : Hid (errTwo p q = if pathL p.data.toList then (if pathL q.data.toList then 0 else 30) else 30) := hideIt rfl
  clear h hrow
  generalize pathL p.data.toList = x at HP HE
  generalize pathL q.data.toList = y at HQ HE
  cases x
  · go_enter Tryz.func54, Tryz.ntmps54
    go_wp2_with (first | (go_at_call 8; refine HD.out.mono ?_; rintro e w1 ⟨rfl, rfl⟩))
    refine wp_loop_rounds 1 ?_
    rw [rounds_succ]
    go_wp2_with (first | (go_at_call 79; refine HP.out.mono ?_; rintro e w2 ⟨rfl, hb2⟩))
    go_ret
    exact ⟨by rw [HE.out]; rfl, Kept.of_below hb2⟩
  · cases y
    · go_enter Tryz.func54, Tryz.ntmps54
      go_wp2_with (first | (go_at_call 8; refine HD.out.mono ?_; rintro e w1 ⟨rfl, rfl⟩))
      refine wp_loop_rounds 2 ?_
      rw [rounds_succ]
      go_wp2_with (first | (go_at_call 79; refine HP.out.mono ?_; rintro e w2 ⟨rfl, hb2⟩; have d1 := HC.out w2 (Kept.of_below hb2)))
      rw [rounds_succ]
      go_wp2_with (first | (go_at_call 79; refine (HQ.out _ (Kept.of_below hb2)).mono ?_; rintro e w3 ⟨rfl, hb3⟩))
      go_ret
      exact ⟨by rw [HE.out]; rfl, ((Kept.of_below hb2).trans (Kept.of_below hb3)).sub (by simp)⟩
    · go_enter Tryz.func54, Tryz.ntmps54
      go_wp2_with (first | (go_at_call 8; refine HD.out.mono ?_; rintro e w1 ⟨rfl, rfl⟩))
      refine wp_loop_rounds 3 ?_
      rw [rounds_succ]
      go_wp2_with (first | (go_at_call 79; refine HP.out.mono ?_; rintro e w2 ⟨rfl, hb2⟩; have d1 := HC.out w2 (Kept.of_below hb2)))
      rw [rounds_succ]
      go_wp2_with (first | (go_at_call 79; refine (HQ.out _ (Kept.of_below hb2)).mono ?_; rintro e w3 ⟨rfl, hb3⟩))
      rw [rounds_succ]
      go_wp2
      go_ret
      exact ⟨by rw [HE.out]; rfl, ((Kept.of_below hb2).trans (Kept.of_below hb3)).sub (by simp)⟩
end Go.Proofs.YtknmmlfdlfioiaaGreatDoor.Vc
namespace Go.Proofs.YtknmmlfdlfioiaaGreatDoor.Vc
open Go.RowKit Go.Shelf Go.Maps
set_option maxRecDepth 100000
theorem dead_nil (w : World) : Calls Tryz.prog 8 #[.pointer none] w fun e w' => e = .returned (.bool true) ∧ w' = w := by
  go_enter Tryz.func8, Tryz.ntmps8
  go_wp2
  go_ret
  exact ⟨rfl, rfl⟩
theorem up_nil (w : World) : Calls Tryz.prog 13 #[.pointer none] w fun e w' => e = .returned (.bool false) ∧ w' = w := by
  go_enter Tryz.func13, Tryz.ntmps13
  go_wp2
  go_ret
  exact ⟨rfl, rfl⟩
theorem crash_nil (k n : Int) (w : World) : Calls Tryz.prog 12 #[.pointer none, .int .u64 k, .int .i64 n] w fun e w' => e = .returned (.tuple #[]) ∧ Kept [] w w' := by
  have HD := hideIt (dead_nil)
  go_enter Tryz.func12, Tryz.ntmps12
  go_wp2_with (first | (go_at_call 8; refine (HD.out _).mono ?_; rintro e wx ⟨rfl, rfl⟩))
  exact bodyPost_ret (results_none Tryz.results12 _ _ _) rfl ⟨rfl, Kept.alloc _ _⟩
theorem hindered_nil (v : Value) (w : World) : Calls Tryz.prog 54 #[.pointer none, v] w fun e w' => e = .returned (.int .i64 7) ∧ w' = w := by
  have HD := hideIt (dead_nil)
  go_enter Tryz.func54, Tryz.ntmps54
  go_wp2_with (first | (go_at_call 8; refine (HD.out _).mono ?_; rintro e wx ⟨rfl, rfl⟩))
  go_ret
  exact ⟨rfl, rfl⟩
theorem write_nil (p s : ByteArray) (w : World) : Calls Tryz.prog 40 #[.pointer none, .string p, .string s] w fun e w' => e = .returned (.int .i64 7) ∧ Kept [] w w' := by
  have HH := hideIt (hindered_nil)
  go_enter Tryz.func40, Tryz.ntmps40
  go_wp2_with (first | (go_at_call 54; refine (HH.out _ _).mono ?_; rintro e wx ⟨rfl, rfl⟩))
  go_ret
  exact ⟨rfl, Kept.alloc _ _⟩
theorem sync_nil (p : ByteArray) (w : World) : Calls Tryz.prog 41 #[.pointer none, .string p] w fun e w' => e = .returned (.int .i64 7) ∧ Kept [] w w' := by
  have HH := hideIt (hindered_nil)
  go_enter Tryz.func41, Tryz.ntmps41
  go_wp2_with (first | (go_at_call 54; refine (HH.out _ _).mono ?_; rintro e wx ⟨rfl, rfl⟩))
  go_ret
  exact ⟨rfl, Kept.alloc _ _⟩
theorem rename_nil (p t : ByteArray) (w : World) : Calls Tryz.prog 42 #[.pointer none, .string p, .string t] w fun e w' => e = .returned (.int .i64 7) ∧ Kept [] w w' := by
  have HH := hideIt (hindered_nil)
  go_enter Tryz.func42, Tryz.ntmps42
  go_wp2_with (first | (go_at_call 54; refine (HH.out _ _).mono ?_; rintro e wx ⟨rfl, rfl⟩))
  go_ret
  exact ⟨rfl, Kept.alloc _ _⟩
theorem remove_nil (p : ByteArray) (w : World) : Calls Tryz.prog 53 #[.pointer none, .string p] w fun e w' => e = .returned (.int .i64 7) ∧ Kept [] w w' := by
  have HH := hideIt (hindered_nil)
  go_enter Tryz.func53, Tryz.ntmps53
  go_wp2_with (first | (go_at_call 54; refine (HH.out _ _).mono ?_; rintro e wx ⟨rfl, rfl⟩))
  go_ret
  exact ⟨rfl, Kept.alloc _ _⟩
theorem read_nil (p : ByteArray) (w : World) : Calls Tryz.prog 32 #[.pointer none, .string p] w fun e w' => e = .returned (.tuple #[.string ⟨#[]⟩, .int .i64 7]) ∧ Kept [] w w' := by
  have HH := hideIt (hindered_nil)
  go_enter Tryz.func32, Tryz.ntmps32
  go_wp2_with (first | (go_at_call 54; refine (HH.out _ _).mono ?_; rintro e wx ⟨rfl, rfl⟩))
  go_ret2
  exact ⟨rfl, Kept.alloc _ _⟩
theorem infoStr : (Tryz.prog.info? 9).map (fun i => (i.zero, i.size, i.bytes)) = some (some (.string ⟨#[]⟩), 1, 16) := by kernel_rfl
theorem one_str {w : World} (p : ByteArray) (j : Nat) (u : Value) (h : [Value.string p][j]? = some u) : (w.alloc (.cells #[.string p] 9)).cell? ((⟨w.heap.size, 0, none⟩ : Addr).add j) = some u := by
  rw [Addr.add_lit, Nat.zero_add, World.cell?_alloc_at _ _ _ _ rfl]
  simpa using h
theorem noFolder_nil (p : ByteArray) (w : World) : Calls Tryz.prog 69 #[.pointer none, .string p] w fun e w' => e = .returned (.int .i64 7) ∧ Kept [] w w' := by
  have HH := hideIt (hindered_nil)
  by_cases h0 : p.data.toList = []
  · obtain rfl : p = ⟨#[]⟩ := by rw [← bs_data p, h0]; rfl
    go_enter Tryz.func69, Tryz.ntmps69
    go_wp2_with (first | (go_at_call 54; refine (HH.out _ _).mono ?_; rintro e wx ⟨rfl, rfl⟩))
    go_ret
    exact ⟨rfl, Kept.refl _ _⟩
  · have e1 : (p.toList == []) = false := by rw [ByteArray.toList_eq]; simpa using h0
    have e2 : p.toList.isEmpty = false := by rw [ByteArray.toList_eq]; simpa using h0
    have e3 : (p.toList != []) = true := by rw [ByteArray.toList_eq]; simpa using h0
    obtain ⟨i0, hi0, hz0, hz1, hz2⟩ := info_parts infoStr
    have own : w.ownsRow 0 9 1 (.slice none 0 0) 0 [] := ⟨rfl, .inl ⟨rfl, rfl⟩⟩
    go_enter Tryz.func69, Tryz.ntmps69
    go_wp2_with (first | (at_builtin; refine wpList_append_own _ rfl _ _ 123 rfl 0 9 i0 _ 1 16 Tryz.underlying123 hi0 hz0 hz1 hz2 rfl (by decide) _ _ _ rfl (own.alloc _) ⟨w.heap.size, 0, none⟩ 1 1 [.string p] rfl rfl (one_str p) (by intro u hu; simp at hu; subst hu; rfl) (by unfold maxLen; omega) (by omega) (Nat.zero_le _) ?_; intro v' w2 hown2 hg2 _) | (go_at_call 54; refine (HH.out _ _).mono ?_; rintro e wx ⟨rfl, rfl⟩))
    go_ret
    exact ⟨rfl, ((Kept.alloc _ _).trans (Kept.of_grown (r := none) hg2)).sub (by simp)⟩
theorem syncDir_nil (p : ByteArray) (w : World) : Calls Tryz.prog 43 #[.pointer none, .string p] w fun e w' => e = .returned (.int .i64 7) ∧ Kept [] w w' := by
  have HH := hideIt (noFolder_nil p)
  go_enter Tryz.func43, Tryz.ntmps43
  go_wp2_with (first | (go_at_call 69; refine (HH.out _).mono ?_; rintro e wx ⟨rfl, hk⟩))
  go_ret
  exact ⟨rfl, ((Kept.alloc _ _).trans hk).sub (by simp)⟩
end Go.Proofs.YtknmmlfdlfioiaaGreatDoor.Vc
namespace Go.Proofs.YtknmmlfdlfioiaaGreatDoor.Vc
open Go.RowKit Go.Shelf Go.Maps
variable {A : Nat → Prop} {pl : Value}
set_option maxHeartbeats 800000 in
set_option maxRecDepth 100000 in
theorem hindered_cell {w : World} {fb : Nat} {now sure done unsure : Value} {came used room steps : Int} (h : FsAt w fb now sure done unsure came used room steps false pl) (hm : MaxAt w) (p : ByteArray) (hs : p.size ≤ 140737488355328) (sb c : Nat)
    (c0 : w.cell? ⟨sb, 0, none⟩ = some (.string p)) :
    Calls Tryz.prog 54 #[.pointer (some ⟨fb, 0, none⟩), .slice (some ⟨sb, 0, none⟩) 1 c] w fun e w' => e = .returned (.int .i64 (errPath p)) ∧ Kept [] w w' := by
  have HD := hideIt (dead_any h)
  have HP := hideIt (path_any p w hm hs)
  have HE : Hid (errPath p = if pathL p.data.toList then 0 else 30) := hideIt rfl
  clear h
  generalize pathL p.data.toList = x at HP HE
  cases x
  · go_enter Tryz.func54, Tryz.ntmps54
    go_wp2_with (first | (go_at_call 8; refine HD.out.mono ?_; rintro e w1 ⟨rfl, rfl⟩))
    refine wp_loop_rounds 1 ?_
    rw [rounds_succ]
    go_wp2_with (first | (go_at_call 79; refine HP.out.mono ?_; rintro e w2 ⟨rfl, hb2⟩))
    go_ret
    exact ⟨by rw [HE.out]; rfl, Kept.of_below hb2⟩
  · go_enter Tryz.func54, Tryz.ntmps54
    go_wp2_with (first | (go_at_call 8; refine HD.out.mono ?_; rintro e w1 ⟨rfl, rfl⟩))
    refine wp_loop_rounds 2 ?_
    rw [rounds_succ]
    go_wp2_with (first | (go_at_call 79; refine HP.out.mono ?_; rintro e w2 ⟨rfl, hb2⟩))
    rw [rounds_succ]
    go_wp2
    go_ret
    exact ⟨by rw [HE.out]; rfl, Kept.of_below hb2⟩
theorem own_one {w : World} {v : Value} {p : ByteArray} (h : w.ownsRow 0 9 1 v 1 [.string p]) : ∃ g cap, v = .slice (some ⟨g, 0, none⟩) 1 cap ∧ w.cell? ⟨g, 0, none⟩ = some (.string p) := by
  have h2 := h.2
  rcases h2 with ⟨_, h0⟩ | ⟨g, cap, cur, rfl, _⟩
  · omega
  · have := h.cells (g := g) rfl 0 (.string p) rfl
    rw [Addr.add_lit] at this
    exact ⟨g, cap, rfl, this⟩
/-- Why there is no folder. -/
def noFolderE (D : DataW Value) (p : ByteArray) (v : Option Addr) : Int := if errPath p = 0 then (if folderB D p v then 0 else 2) else 30
set_option maxHeartbeats 800000 in
set_option maxRecDepth 100000 in
theorem noFolder_gen {w : World} {fb b n : Nat} {sv dv uv : Value} {came used room steps : Int} {D : DataW Value} (h : FsAt w fb (.map (some b)) sv dv uv came used room steps false pl) (hx : MaxAt w) (hm : NMap w b n D) (p : ByteArray) (hp : p.size ≤ 1000) (h0 : p.data.toList ≠ []) (v : Option Addr) (hv : valAt D (key p) = .pointer v) :
    Calls Tryz.prog 69 #[.pointer (some ⟨fb, 0, none⟩), .string p] w fun e w' => e = .returned (.int .i64 (noFolderE D p v)) ∧ Kept [] w w' := by
  have e1 : (p.toList == []) = false := by rw [ByteArray.toList_eq]; simpa using h0
  have e2 : p.toList.isEmpty = false := by rw [ByteArray.toList_eq]; simpa using h0
  have e3 : (p.toList != []) = true := by rw [ByteArray.toList_eq]; simpa using h0
  obtain ⟨i0, hi0, hz0, hz1, hz2⟩ := info_parts infoStr
  have own : w.ownsRow 0 9 1 (.slice none 0 0) 0 [] := ⟨rfl, .inl ⟨rfl, rfl⟩⟩
  have HH : Hid (∀ X sb c, Kept [] w X → X.cell? ⟨sb, 0, none⟩ = some (.string p) → Calls Tryz.prog 54 #[.pointer (some ⟨fb, 0, none⟩), .slice (some ⟨sb, 0, none⟩) 1 c] X fun e w' => e = .returned (.int .i64 (errPath p)) ∧ Kept [] w w') := hideIt (fun X sb c hX hc =>
    (hindered_cell (hX.fs h (by simp)) (hX.max hx (by simp)) p (by omega) sb c hc).mono fun _ _ k => ⟨k.1, (hX.trans k.2).sub (by simp)⟩)
  have HF : Hid (∀ X, Kept [] w X → Calls Tryz.prog 46 #[.map (some b), .string p] X fun e w' => e = .returned (.bool (folderB D p v)) ∧ w' = X) := hideIt (fun X hX => folder_gen (hX.map hm (by simp)) p (by omega) v hv)
  have HC : Hid (∀ X, Kept [] w X → X.cell? ⟨fb, 0, none⟩ = some (.map (some b))) := hideIt (fun X hX => fs0 (hX.fs h (by simp)))
  have HE : Hid (noFolderE D p v = if errPath p = 0 then (if folderB D p v then 0 else 2) else 30) := hideIt rfl
  have he : errPath p = 0 ∨ errPath p = 30 := by unfold errPath; split <;> simp
  generalize errPath p = x at HH HE he
  generalize folderB D p v = y at HF HE
  clear h hx hm hv h0
  rcases he with rfl | rfl <;> cases y
  all_goals go_enter Tryz.func69, Tryz.ntmps69
  all_goals go_wp2_with (first | (at_builtin; refine wpList_append_own _ rfl _ _ 123 rfl 0 9 i0 _ 1 16 Tryz.underlying123 hi0 hz0 hz1 hz2 rfl (by decide) _ _ _ rfl (own.alloc _) ⟨w.heap.size, 0, none⟩ 1 1 [.string p] rfl rfl (one_str p) (by intro u hu; simp at hu; subst hu; rfl) (by unfold maxLen; omega) (by omega) (Nat.zero_le _) ?_; intro v' w2 hown2 hg2 _; have hk2 : Kept [] w w2 := ((Kept.alloc _ _).trans (Kept.of_grown (r := none) hg2)).sub (by simp); obtain ⟨g, cap, rfl, g0⟩ := own_one hown2) | (go_at_call 54; refine (HH.out _ _ _ hk2 g0).mono ?_; rintro e w3 ⟨rfl, hk3⟩; have d0 := HC.out w3 hk3) | (go_at_call 46; refine (HF.out _ hk3).mono ?_; rintro e w4 ⟨rfl, hw4⟩; obtain rfl := hw4.symm))
  all_goals go_ret
  all_goals exact ⟨by rw [HE.out]; rfl, hk3⟩
end Go.Proofs.YtknmmlfdlfioiaaGreatDoor.Vc
namespace Go.Proofs.YtknmmlfdlfioiaaGreatDoor.Vc
open Go.RowKit Go.Shelf Go.Maps
variable {B0 : Nat} {A : Nat → Prop} {pl : Value}
/-- The whole behind its first step, however many bytes are told to be used. -/
structure Sg (pl : Value) (A : Nat → Prop) (B0 : Nat) (w : World) (fb b1 b2 b3 : Nat) (done : Value) (came : Nat) (used : Int) (room steps : Nat) (n1 n2 n3 k : Nat) (D1 D2 D3 : DataW Value) (xs : List Value) : Prop where
  fs : FsAt w fb (.map (some b1)) (.map (some b2)) done (.map (some b3)) came used room steps false pl
  m1 : NMap w b1 n1 D1
  m2 : NMap w b2 n2 D2
  m3 : UMap w b3 n3 D3
  row : w.ownsRow B0 69 4 done k xs
  d12 : b1 ≠ b2
  d13 : b1 ≠ b3
  d23 : b2 ≠ b3
  ba : B0 ≤ w.heap.size
  a1 : A b1
  a2 : A b2
  a3 : A b3
  a0 : A fb
  a4 : ∀ g, done.ownBlock = some g → A g
  aw : ∀ g, w.heap.size ≤ g → A g
section
variable {w w' : World} {fb b1 b2 b3 : Nat} {done : Value} {came : Nat} {used : Int} {room steps n1 n2 n3 k : Nat} {D1 D2 D3 : DataW Value} {xs : List Value}
theorem Sg.kept (h : Sg pl A B0 w fb b1 b2 b3 done came used room steps n1 n2 n3 k D1 D2 D3 xs) {bs : List Nat} (hk : Kept bs w w')
    (h0 : fb ∉ bs) (h1 : b1 ∉ bs) (h2 : b2 ∉ bs) (h3 : b3 ∉ bs) (h4 : ∀ g, done.ownBlock = some g → g ∉ bs) : Sg pl A B0 w' fb b1 b2 b3 done came used room steps n1 n2 n3 k D1 D2 D3 xs :=
  ⟨hk.fs h.fs h0, hk.map h.m1 h1, hk.map h.m2 h2, hk.map h.m3 h3, hk.row h.row h4, h.d12, h.d13, h.d23, Nat.le_trans h.ba hk.size, h.a1, h.a2, h.a3, h.a0, h.a4, fun g hg => h.aw g (Nat.le_trans hk.size hg)⟩
theorem Sg.keep0 (h : Sg pl A B0 w fb b1 b2 b3 done came used room steps n1 n2 n3 k D1 D2 D3 xs) (hk : Kept [] w w') : Sg pl A B0 w' fb b1 b2 b3 done came used room steps n1 n2 n3 k D1 D2 D3 xs :=
  h.kept hk (by simp) (by simp) (by simp) (by simp) (by simp)
/-- Where the whole's own block is another one: maps and rows are as they were. -/
theorem Sg.fsTo (h : Sg pl A B0 w fb b1 b2 b3 done came used room steps n1 n2 n3 k D1 D2 D3 xs) {came' : Nat} {used' : Int} {steps' : Nat} (hk : Kept [fb] w w') (hf : FsAt w' fb (.map (some b1)) (.map (some b2)) done (.map (some b3)) came' used' room steps' false pl) :
    Sg pl A B0 w' fb b1 b2 b3 done came' used' room steps' n1 n2 n3 k D1 D2 D3 xs := by
  have e1 := file_ne_map h.fs h.m1
  have e2 := file_ne_map h.fs h.m2
  have e3 := file_ne_map h.fs h.m3
  have e4 := row_ne_cells h.row h.fs (by decide)
  refine ⟨hf, hk.map h.m1 (by simpa using fun e => e1 e.symm), hk.map h.m2 (by simpa using fun e => e2 e.symm), hk.map h.m3 (by simpa using fun e => e3 e.symm), hk.row h.row (fun g hg => ?_), h.d12, h.d13, h.d23, Nat.le_trans h.ba hk.size, h.a1, h.a2, h.a3, h.a0, h.a4, fun g hg => h.aw g (Nat.le_trans hk.size hg)⟩
  simp
  intro e
  subst e
  rw [hg] at e4
  simp at e4
theorem Sg.setFs (h : Sg pl A B0 w fb b1 b2 b3 done came used room steps n1 n2 n3 k D1 D2 D3 xs) (i : Nat) (v : Value) (came' : Nat) (used' : Int) (hf : FsAt (w.setCell ⟨fb, i, none⟩ v) fb (.map (some b1)) (.map (some b2)) done (.map (some b3)) came' used' room steps false pl) :
    Sg pl A B0 (w.setCell ⟨fb, i, none⟩ v) fb b1 b2 b3 done came' used' room steps n1 n2 n3 k D1 D2 D3 xs := h.fsTo (Kept.set fb i v) hf
theorem Sg.step (h : Sg pl A B0 w fb b1 b2 b3 done came used room steps n1 n2 n3 k D1 D2 D3 xs) (hs : steps < 900000) (hc : Calm pl w steps) :
    Calls Tryz.prog 64 #[.pointer (some ⟨fb, 0, none⟩)] w fun e w' => e = .returned (.int .i64 0) ∧ Sg pl A B0 w' fb b1 b2 b3 done came used room (steps + 1) n1 n2 n3 k D1 D2 D3 xs ∧ Kept [fb] w w' :=
  (step_old steps (by omega) h.fs hc).mono fun e w' ⟨he, h1, h2⟩ => ⟨he, h.fsTo h2 h1, h2⟩
end
theorem Calm.keep {w w' : World} {s : Nat} (h : Calm pl w s) (hk : Kept [] w w') : Calm pl w' s := by
  rcases h with h | ⟨g, o, m, c, t, h1, h2, h3, h4, h5, h6⟩
  · exact .inl h
  · refine .inr ⟨g, o, m, c, t, h1, h2, h3, ?_, Nat.lt_of_lt_of_le h5 hk.size, h6⟩
    rw [← h4]
    simp only [World.cell?, hk.block g h5 (by simp)]
/-- The block of a map, if it is laid. -/
def mb : Value → List Nat
  | .map (some b) => [b]
  | _ => []
/-- What a call sees of the names, whether they were laid or not; and what a step leaves. -/
structure View (pl : Value) (A : Nat → Prop) (B0 : Nat) (w : World) (fb : Nat) (nv sv uv done : Value) (came : Nat) (used : Int) (room steps N k : Nat) (D1 D2 D3 : DataW Value) (xs : List Value) : Prop where
  fs : FsAt w fb nv sv done uv came used room steps false pl
  a0 : A fb
  ptrs : Ptrs D1
  keys : ∀ l, Maps.has D1 (.string l) = true → l.length ≤ 1000
  fold : ∀ X, Kept [] w X → ∀ q : ByteArray, q.size ≤ 1000 → Calls Tryz.prog 46 #[nv, .string q] X fun e w' => e = .returned (.bool (folderB D1 q (pv D1 q))) ∧ w' = X
  look : ∀ X, Kept [] w X → ∀ q : ByteArray, q.size ≤ 1000 → (Instr.lookup 50 nv (.string q) true).run Tryz.prog X = .ok (.tuple #[.pointer (pv D1 q), .bool (Maps.has D1 (key q))]) X ∧ (Instr.lookup 50 nv (.string q) false).run Tryz.prog X = .ok (.pointer (pv D1 q)) X
  bare : ∀ X, Kept [] w X → ∀ q : ByteArray, q.size ≤ 1000 → Calls Tryz.prog 48 #[nv, .string q] X fun e w' => ∃ y, e = .returned (.bool y) ∧ (y = true ↔ (folderB D1 q (pv D1 q) = false ∨ NoKids D1 q)) ∧ Kept [] X w'
  file : ∀ X, Kept [] w X → ∀ q : ByteArray, q.size ≤ 1000 → Calls Tryz.prog 55 #[.pointer (some ⟨fb, 0, none⟩), .string q] X fun e w' => e = .returned (fileR (Maps.has D1 (key q)) (pv D1 q)) ∧ w' = X
  step : ∀ X, Kept [] w X → steps < 900000 → Calls Tryz.prog 64 #[.pointer (some ⟨fb, 0, none⟩)] X fun e w' => e = .returned (.int .i64 0) ∧ ∃ b1 b2 b3 n1 n2 n3, n1 ≤ N ∧ n2 ≤ N ∧ n3 ≤ N ∧ (b1 ∈ mb nv ∨ X.heap.size ≤ b1) ∧ (b2 ∈ mb sv ∨ X.heap.size ≤ b2) ∧ (b3 ∈ mb uv ∨ X.heap.size ≤ b3) ∧
    Sg pl A B0 w' fb b1 b2 b3 done came used room (steps + 1) n1 n2 n3 k D1 D2 D3 xs ∧ Kept [fb] X w'
theorem view_some {w : World} {fb b1 b2 b3 : Nat} {done : Value} {came : Nat} {used : Int} {room steps n1 n2 n3 k N : Nat} {D1 D2 D3 : DataW Value} {xs : List Value} (h : Sg pl A B0 w fb b1 b2 b3 done came used room steps n1 n2 n3 k D1 D2 D3 xs) (hp : Ptrs D1) (hk : ∀ l, Maps.has D1 (.string l) = true → l.length ≤ 1000) (h1 : n1 ≤ N) (h2 : n2 ≤ N) (h3 : n3 ≤ N) (hc : Calm pl w steps) :
    View pl A B0 w fb (.map (some b1)) (.map (some b2)) (.map (some b3)) done came used room steps N k D1 D2 D3 xs where
  fs := h.fs
  a0 := h.a0
  ptrs := hp
  keys := hk
  fold := fun X hX q hq => folder_gen (hX.map h.m1 (by simp)) q (by omega) _ (hp q)
  look := fun X hX q hq => by
    have a := look_ok (hX.map h.m1 (by simp)) q (by unfold maxLen; omega)
    have b := look_at (hX.map h.m1 (by simp)) q (by unfold maxLen; omega)
    rw [hp q] at a b
    exact ⟨a, b⟩
  bare := fun X hX q hq => bare_gen (hX.map h.m1 (by simp)) q (by omega) _ (hp q) hk
  file := fun X hX q hq => file_gen (hX.fs h.fs (by simp)) (hX.map h.m1 (by simp)) q hq _ (hp q)
  step := fun X hX hs => ((h.keep0 hX).step hs (hc.keep hX)).mono fun e w' ⟨a1, a2, a3⟩ => ⟨a1, b1, b2, b3, n1, n2, n3, h1, h2, h3, .inl (by simp [mb]), .inl (by simp [mb]), .inl (by simp [mb]), a2, a3⟩
end Go.Proofs.YtknmmlfdlfioiaaGreatDoor.Vc
namespace Go.Proofs.YtknmmlfdlfioiaaGreatDoor.Vc
open Go.RowKit Go.Shelf Go.Maps
variable {B0 : Nat} {A : Nat → Prop} {pl : Value}
/-- A file that is well. -/
def FileOK (A : Nat → Prop) (w : World) (fb xb : Nat) : Prop := A xb ∧ ∃ (num : Nat) (now sure : ByteArray) (links : Int), FileAt w xb num now sure links ∧ fb ≠ xb ∧ num < 1000000 ∧ now.size ≤ 100000000 ∧ sure.size ≤ 100000000
/-- Nothing, or a file that is well. -/
def PtrOK (A : Nat → Prop) (w : World) (fb : Nat) (v : Option Addr) : Prop := v = none ∨ ∃ xb, v = some ⟨xb, 0, none⟩ ∧ FileOK A w fb xb
abbrev NoX : Nat → Prop := fun _ => False
/-- What is of no concern to the whole is as it was; files stay files; those that are told keep their two texts. -/
structure Frm (A : Nat → Prop) (fb : Nat) (xo : Nat → Prop) (w w' : World) : Prop where
  os : w'.os = w.os
  tape : w'.tape = w.tape
  output : w'.output = w.output
  size : w.heap.size ≤ w'.heap.size
  foreign : ∀ (g : Nat) (cs : Array Value) (t : TypeId) (fr : Nat × Nat), w.heap[g]? = some (.cells cs t fr) → t ≠ 54 → t ≠ 78 → t ≠ 69 → w'.heap[g]? = some (.cells cs t fr)
  fmap : ∀ (g : Nat) (o : Obj), w.heap[g]? = some o → ¬ A g → w'.heap[g]? = some o
  file : ∀ xb, FileOK A w fb xb → FileOK A w' fb xb
  own : ∀ (xb num : Nat) (now sure : ByteArray) (l : Int), xo xb → FileAt w xb num now sure l → ∃ l', FileAt w' xb num now sure l'
  nums : ∀ (xb : Nat) (num : Int) (now sure : ByteArray) (l : Int), FileAt w xb num now sure l → ∃ now' sure' l', FileAt w' xb num now' sure' l'
theorem Frm.refl (fb : Nat) (xo : Nat → Prop) (w : World) : Frm A fb xo w w := ⟨rfl, rfl, rfl, Nat.le_refl _, fun _ _ _ _ h _ _ _ => h, fun _ _ h _ => h, fun _ h => h, fun _ _ _ _ l _ h => ⟨l, h⟩, fun _ _ a b l h => ⟨a, b, l, h⟩⟩
theorem Frm.trans {fb : Nat} {xo : Nat → Prop} {a b c : World} (h : Frm A fb xo a b) (k : Frm A fb xo b c) : Frm A fb xo a c :=
  ⟨k.os.trans h.os, k.tape.trans h.tape, k.output.trans h.output, Nat.le_trans h.size k.size, fun g cs t fr h0 h1 h2 h3 => k.foreign g cs t fr (h.foreign g cs t fr h0 h1 h2 h3) h1 h2 h3, fun g o h0 h2 => k.fmap g o (h.fmap g o h0 h2) h2, fun xb hx => k.file xb (h.file xb hx), fun xb num now sure l hx hF => by
    obtain ⟨l', h'⟩ := h.own xb num now sure l hx hF
    exact k.own xb num now sure l' hx h', fun xb num now sure l hF => by
    obtain ⟨a1, a2, a3, h'⟩ := h.nums xb num now sure l hF
    exact k.nums xb num a1 a2 a3 h'⟩
/-- A block that the whole may change, and that is no file. -/
def Inner (A : Nat → Prop) (w : World) (b : Nat) : Prop := w.heap.size ≤ b ∨ (((∃ es c, w.heap[b]? = some (.map es c)) ∨ (∃ cs fr, w.heap[b]? = some (.cells cs 54 fr)) ∨ ∃ cs fr, w.heap[b]? = some (.cells cs 69 fr)) ∧ A b)
theorem Inner.ne {w : World} {b g : Nat} {cs : Array Value} {t : TypeId} {fr : Nat × Nat} (h : Inner A w b) (hg : w.heap[g]? = some (.cells cs t fr)) (h1 : t ≠ 54) (h3 : t ≠ 69) : g ≠ b := by
  intro e
  subst e
  have hl := block_lt hg
  rcases h with h | ⟨⟨es, c, h⟩ | ⟨cs', fr', h⟩ | ⟨cs', fr', h⟩, _⟩
  · omega
  · rw [hg] at h; cases h
  · rw [hg] at h; simp only [Option.some.injEq, Obj.cells.injEq] at h; exact h1 h.2.1
  · rw [hg] at h; simp only [Option.some.injEq, Obj.cells.injEq] at h; exact h3 h.2.1
theorem Inner.neM {w : World} {b g : Nat} {o : Obj} (h : Inner A w b) (hg : w.heap[g]? = some o) (hA : ¬ A g) : g ≠ b := by
  intro e
  subst e
  have hl := block_lt hg
  rcases h with h | ⟨_, h⟩
  · omega
  · exact hA h
theorem Frm.of_kept {fb : Nat} {xo : Nat → Prop} {bs : List Nat} {w w' : World} (h : Kept bs w w') (hb : ∀ b ∈ bs, Inner A w b) : Frm A fb xo w w' := by
  have key : ∀ (g : Nat) (cs : Array Value) (t : TypeId) (fr : Nat × Nat), w.heap[g]? = some (.cells cs t fr) → t ≠ 54 → t ≠ 69 → w'.heap[g]? = some (.cells cs t fr) := by
    intro g cs t fr hg h1 h3
    rw [h.block g (block_lt hg) (fun e => (hb g e).ne hg h1 h3 rfl)]
    exact hg
  refine ⟨h.os, h.tape, h.output, h.size, fun g cs t fr hg h1 _ h3 => key g cs t fr hg h1 h3, ?_, ?_, ?_, fun xb num now sure l hF => ⟨now, sure, l, key _ _ _ _ hF (by decide) (by decide)⟩⟩
  · intro g o hg hA
    rw [h.block g (block_lt hg) (fun e => (hb g e).neM hg hA rfl)]
    exact hg
  · rintro xb ⟨hAx, num, now, sure, links, hF, r⟩
    exact ⟨hAx, num, now, sure, links, key _ _ _ _ hF (by decide) (by decide), r⟩
  · intro xb num now sure l _ hF
    exact ⟨l, key _ _ _ _ hF (by decide) (by decide)⟩
theorem Frm.of_tell {fb : Nat} {xo : Nat → Prop} {w w' : World} (h : Tell A fb w w') (hf : ∃ cs fr, w.heap[fb]? = some (.cells cs 54 fr)) (hA0 : A fb) : Frm A fb xo w w' := by
  have nfb : ∀ (g : Nat) (cs : Array Value) (t : TypeId) (fr : Nat × Nat), w.heap[g]? = some (.cells cs t fr) → t ≠ 54 → g ≠ fb := by
    intro g cs t fr hg ht e
    subst e
    obtain ⟨cs', fr', h'⟩ := hf
    rw [hg] at h'
    simp only [Option.some.injEq, Obj.cells.injEq] at h'
    exact ht h'.2.1
  refine ⟨h.os, h.tape, h.output, h.size, ?_, ?_, ?_, ?_, fun xb num now sure l hF => by
    obtain ⟨l', h'⟩ := h.file hF (fun e => nfb xb _ _ _ hF (by decide) e.symm)
    exact ⟨now, sure, l', h'⟩⟩
  · intro g cs t fr hg h1 h2 _
    rcases h.block g (block_lt hg) (nfb g cs t fr hg h1) with e | ⟨_, num, now, sure, l, l', e, _⟩
    · rw [e]; exact hg
    · unfold FileAt at e
      rw [hg] at e
      simp only [Option.some.injEq, Obj.cells.injEq] at e
      exact absurd e.2.1 h2
  · intro g o hg hA
    rcases h.block g (block_lt hg) (fun e => hA (by rw [e]; exact hA0)) with e | ⟨e, _⟩
    · rw [e]; exact hg
    · exact absurd e hA
  · rintro xb ⟨hAx, num, now, sure, links, hF, h1, r⟩
    obtain ⟨l, hF'⟩ := h.file hF h1
    exact ⟨hAx, num, now, sure, l, hF', h1, r⟩
  · intro xb num now sure l _ hF
    exact h.file hF (fun e => nfb xb _ _ _ hF (by decide) e.symm)
section
variable {w w' : World} {fb b1 b2 b3 : Nat} {done : Value} {came : Nat} {used : Int} {room steps n1 n2 n3 k : Nat} {D1 D2 D3 : DataW Value} {xs : List Value}
theorem Sg.inFs (h : Sg pl A B0 w fb b1 b2 b3 done came used room steps n1 n2 n3 k D1 D2 D3 xs) : ∃ cs fr, w.heap[fb]? = some (.cells cs 54 fr) := ⟨_, _, h.fs⟩
theorem Sg.inner (h : Sg pl A B0 w fb b1 b2 b3 done came used room steps n1 n2 n3 k D1 D2 D3 xs) : ∀ b, b = fb ∨ b = b1 ∨ b = b2 ∨ b = b3 ∨ b ∈ done.ownBlock.toList → Inner A w b := by
  intro b hb
  rcases hb with rfl | rfl | rfl | rfl | hb
  · exact .inr ⟨.inr (.inl ⟨_, _, h.fs⟩), h.a0⟩
  · exact .inr ⟨.inl (map_fact h.m1), h.a1⟩
  · exact .inr ⟨.inl (map_fact h.m2), h.a2⟩
  · exact .inr ⟨.inl (map_fact h.m3), h.a3⟩
  · have ha4 := h.a4
    rcases h.row.2 with ⟨rfl, _⟩ | ⟨g, cap, cur, rfl, _, hg, _⟩
    · simp [Value.ownBlock] at hb
    · simp [Value.ownBlock] at hb
      subst hb
      exact .inr ⟨.inr (.inr ⟨_, _, hg⟩), ha4 b rfl⟩
/-- Where files' links alone are others, and the whole's own block. -/
theorem Sg.tell (h : Sg pl A B0 w fb b1 b2 b3 done came used room steps n1 n2 n3 k D1 D2 D3 xs) (ht : Tell A fb w w') {used' : Int} (hf : FsAt w' fb (.map (some b1)) (.map (some b2)) done (.map (some b3)) came used' room steps false pl) : Sg pl A B0 w' fb b1 b2 b3 done came used' room steps n1 n2 n3 k D1 D2 D3 xs := by
  have mp : ∀ {kt : TypeId} {b n : Nat} {D : DataW Value}, w.ownsMap Tryz.prog kt anyE b n D → w'.ownsMap Tryz.prog kt anyE b n D := by
    intro kt b n D hm
    obtain ⟨es, c, h1, r⟩ := hm
    refine ⟨es, c, ht.same h1 ?_ (fun arr => by simp), r⟩
    exact fun e => file_ne_map h.fs ⟨es, c, h1, r⟩ e.symm
  refine ⟨hf, mp h.m1, mp h.m2, mp h.m3, ⟨h.row.1, ?_⟩, h.d12, h.d13, h.d23, Nat.le_trans h.ba ht.size, h.a1, h.a2, h.a3, h.a0, h.a4, fun g hg => h.aw g (Nat.le_trans ht.size hg)⟩
  rcases h.row.2 with hr | ⟨g, cap, cur, e, hb, hg, r⟩
  · exact .inl hr
  · refine .inr ⟨g, cap, cur, e, hb, ht.same hg ?_ (fun arr => by simp), r⟩
    intro e2
    subst e2
    have := h.fs
    unfold FsAt at this
    rw [hg] at this
    simp only [Option.some.injEq, Obj.cells.injEq] at this
    exact absurd this.2.1 (by decide)
/-- A name about to be lost: the bytes that are used may be fewer, the links of one file are. -/
theorem unlink_sg (h : Sg pl A B0 w fb b1 b2 b3 done came used room steps n1 n2 n3 k D1 D2 D3 xs) (hp : Ptrs D1) (p : ByteArray) (hps : p.size ≤ 1000) (hok : PtrOK A w fb (pv D1 p)) (hu1 : -1000000000000000 ≤ used) (hu2 : used ≤ 1000000000000000) :
    Calls Tryz.prog 68 #[.pointer (some ⟨fb, 0, none⟩), .string p] w fun e w' => e = .returned (.tuple #[]) ∧ ∃ u, u ≤ used ∧ used ≤ u + 100000000 ∧ Sg pl A B0 w' fb b1 b2 b3 done came u room steps n1 n2 n3 k D1 D2 D3 xs ∧ Tell A fb w w' := by
  rcases hok with hv | ⟨xb, hv, hAx, num, now, sure, links, hF, hfx, _, hns, _⟩
  · exact (unlink_none h.fs h.m1 p hps (by rw [hp p, hv])).mono fun e w' ⟨h1, h2⟩ => ⟨h1, used, Int.le_refl _, by omega, by rw [h2]; exact h, by rw [h2]; exact Tell.refl _ _⟩
  · refine (unlink_some h.fs h.m1 p hps (by rw [hp p, hv]) hF hfx).mono fun e w' ⟨h1, u, l, h2, h3, h4, h5⟩ => ?_
    have ht : Tell A fb w w' := by
      refine ⟨h5.os, h5.tape, h5.output, h5.size, fun g hg hn => ?_⟩
      by_cases e : g = xb
      · subst e
        exact .inr ⟨hAx, num, now, sure, links, l, hF, h4⟩
      · exact .inl (h5.block g hg (by simp; exact ⟨hn, e⟩))
    refine ⟨h1, u, ?_, ?_, h.tell ht h3, ht⟩
    · rcases h2 with rfl | rfl
      · omega
      · rw [IntKind.wrap_i64]; omega
    · rcases h2 with rfl | rfl
      · omega
      · rw [IntKind.wrap_i64]; omega
end
theorem filep_info : ∃ j, Tryz.prog.info? 78 = some j ∧ j.size ≠ 0 := by
  have h : (Tryz.prog.info? 78).map (fun i => i.size) = some 4 := by kernel_rfl
  cases hi : Tryz.prog.info? 78 with
  | none => rw [hi] at h; cases h
  | some j => rw [hi] at h; simp at h; exact ⟨j, rfl, by omega⟩
/-- Two of them are held against each other. -/
theorem ptr_eql {w : World} {fb : Nat} {a b : Option Addr} (ha : PtrOK A w fb a) (hb : PtrOK A w fb b) (X : World) (hX : Kept [] w X) : (binOp BinOp.eql 67 (.pointer a) (.pointer b)).run Tryz.prog X = .ok (.bool (decide (a = b))) X := by
  obtain ⟨j, hj, hjs⟩ := filep_info
  rcases ha with rfl | ⟨xa, rfl, _, n1, w1, s1, l1, hFa, _⟩
  · rcases hb with rfl | ⟨xb, rfl, _⟩
    · rw [decide_eq_true rfl]; kernel_rfl
    · rw [decide_eq_false (by simp)]; kernel_rfl
  · rcases hb with rfl | ⟨xb, rfl, _, n2, w2, s2, l2, hFb, _⟩
    · rw [decide_eq_false (by simp)]; kernel_rfl
    · by_cases e : xa = xb
      · subst e
        rw [decide_eq_true rfl]
        exact run_eql_ptr_same X _ Tryz.underlying67 hj
      · rw [decide_eq_false (by intro h; injection h with h; injection h with h; exact e h)]
        exact run_eql_ptr_other X Tryz.underlying67 hj hjs (by intro h; injection h with h; exact e h) (hX.fs hFa (by simp)) (hX.fs hFb (by simp))
theorem PtrOK.frm {w w' : World} {fb : Nat} {xo : Nat → Prop} {v : Option Addr} (h : PtrOK A w fb v) (hf : Frm A fb xo w w') : PtrOK A w' fb v := by
  rcases h with h | ⟨xb, h, k⟩
  · exact .inl h
  · exact .inr ⟨xb, h, hf.file xb k⟩
theorem Frm.kept0 {fb : Nat} {xo : Nat → Prop} {w w' : World} (h : Kept [] w w') : Frm A fb xo w w' := Frm.of_kept h (by simp)
theorem Frm.fs1 {fb : Nat} {xo : Nat → Prop} {w w' : World} {cs : Array Value} {fr : Nat × Nat} (h : Kept [fb] w w') (hf : w.heap[fb]? = some (.cells cs 54 fr)) (hA0 : A fb) : Frm A fb xo w w' :=
  Frm.of_kept h (by intro b hb; simp at hb; subst hb; exact .inr ⟨.inr (.inl ⟨_, _, hf⟩), hA0⟩)
end Go.Proofs.YtknmmlfdlfioiaaGreatDoor.Vc
namespace Go.Proofs.YtknmmlfdlfioiaaGreatDoor.Vc
open Go.RowKit Go.Shelf Go.Maps
variable {B0 : Nat} {A : Nat → Prop} {pl : Value}
theorem path_size (p : ByteArray) (h : pathL p.data.toList = true) : p.size ≤ 200 := by
  unfold pathL at h
  simp only [Bool.and_eq_true, decide_eq_true_eq] at h
  rw [← str_len]
  exact h.1
/-- A call that is refused, and why: nothing that was there is another one. -/
def Refd (E : Int) (w : World) (e : Ending) (w' : World) : Prop := e = .returned (.int .i64 E) ∧ Kept [] w w'
theorem refd_of {E E' : Int} {w w' : World} (h : E = E') (h0 : E' ≠ 0) (hk : Kept [] w w') : E ≠ 0 ∧ Refd E w (.returned (.int .i64 E')) w' := by
  subst h
  exact ⟨h0, rfl, hk⟩
/-- Why a folder is not made. -/
def mkE (D : DataW Value) (p : ByteArray) : Int := if pathL p.data.toList then (if folderB D (dirOf p) (pv D (dirOf p)) then (if Maps.has D (key p) then 32 else 0) else 2) else 30
/-- A call that is refused: nothing that was there is another one. -/
def Refused (w : World) (e : Ending) (w' : World) : Prop := ∃ E : Int, E ≠ 0 ∧ e = .returned (.int .i64 E) ∧ Kept [] w w'
section
variable {w : World} {fb : Nat} {nv sv uv done : Value} {came : Nat} {used : Int} {room steps N k : Nat} {D1 D2 D3 : DataW Value} {xs : List Value}
/-- Behind an act: the names that are now, and the row. -/
theorem Sg.enacted {w2 w3 : World} {b1 b2 b3 n1 n2 n3 m : Nat} {done' : Value} {D' : DataW Value} {ys : List Value} (h : Sg pl A B0 w2 fb b1 b2 b3 done came used room steps n1 n2 n3 k D1 D2 D3 xs) (hf : FsAt w3 fb (.map (some b1)) (.map (some b2)) done' (.map (some b3)) came used room steps false pl) (hm : NMap w3 b1 m D') (hr : w3.ownsRow B0 69 4 done' (k + 1) ys) (hk : Kept (b1 :: fb :: done.ownBlock.toList) w2 w3) (hd : ∀ g, done'.ownBlock = some g → done.ownBlock = some g ∨ w2.heap.size ≤ g) :
    Sg pl A B0 w3 fb b1 b2 b3 done' came used room steps m n2 n3 (k + 1) D' D2 D3 ys := by
  have e2 := file_ne_map h.fs h.m2
  have e3 := file_ne_map h.fs h.m3
  have r2 := row_ne_map h.row h.m2
  have r3 := row_ne_map h.row h.m3
  refine ⟨hf, hm, hk.map h.m2 ?_, hk.map h.m3 ?_, hr, h.d12, h.d13, h.d23, Nat.le_trans h.ba hk.size, h.a1, h.a2, h.a3, h.a0, fun g hg => (hd g hg).elim (h.a4 g) (h.aw g), fun g hg => h.aw g (Nat.le_trans hk.size hg)⟩
  · simp only [List.mem_cons, not_or]
    exact ⟨fun e => h.d12 e.symm, fun e => e2 e.symm, r2⟩
  · simp only [List.mem_cons, not_or]
    exact ⟨fun e => h.d13 e.symm, fun e => e3 e.symm, r3⟩
/-- An act at a state behind a step. -/
theorem enact_sg {w2 : World} {b1 b2 b3 n1 n2 n3 : Nat} (h : Sg pl A B0 w2 fb b1 b2 b3 done came used room steps n1 n2 n3 k D1 D2 D3 xs) (hk : k < 1000000) (ki : Int) (p to : ByteArray) (x : Option Addr) (P : DataW Value → Prop) (m : Nat)
    (hdo : ∀ X, Kept [] w2 X → Calls Tryz.prog 25 #[.map (some b1), .agg #[.int .i64 ki, .string p, .string to, .pointer x]] X fun e w' => e = .returned (.tuple #[]) ∧ ∃ D', P D' ∧ NMap w' b1 m D' ∧ Kept [b1] X w') :
    Calls Tryz.prog 65 #[.pointer (some ⟨fb, 0, none⟩), .agg #[.int .i64 ki, .string p, .string to, .pointer x]] w2 fun e w' => e = .returned (.tuple #[]) ∧ ∃ D' done', P D' ∧ Sg pl A B0 w' fb b1 b2 b3 done' came used room steps m n2 n3 (k + 1) D' D2 D3 (xs ++ [.int .i64 ki, .string p, .string to, .pointer x]) ∧ Kept (b1 :: fb :: done.ownBlock.toList) w2 w' :=
  (enact_gen h.fs h.m1 h.row h.ba hk ki p to x P m hdo).mono fun _ _ ⟨h1, D', h2, done', hd, h3, h4, h5, h6⟩ => ⟨h1, D', done', h2, h.enacted h3 h4 h5 h6 hd, h6⟩
/-- What Mkdir leaves. -/
def MkdirTo (pl : Value) (A : Nat → Prop) (B0 : Nat) (w : World) (fb : Nat) (came : Nat) (used : Int) (room steps N k : Nat) (D1 D2 D3 : DataW Value) (xs : List Value) (p : ByteArray) (e : Ending) (w' : World) : Prop :=
  e = .returned (.int .i64 0) ∧ pathL p.data.toList = true ∧ ∃ b1 b2 b3 n1 n2 n3 done', n1 ≤ N + 1 ∧ n2 ≤ N ∧ n3 ≤ N ∧ Sg pl A B0 w' fb b1 b2 b3 done' came used room (steps + 1) n1 n2 n3 (k + 1) (comesD D1 p (.pointer none)) D2 D3 (xs ++ [.int .i64 0, .string p, .string ⟨#[]⟩, .pointer none]) ∧ ∀ xo, Frm A fb xo w w'
end
end Go.Proofs.YtknmmlfdlfioiaaGreatDoor.Vc
namespace Go.Proofs.YtknmmlfdlfioiaaGreatDoor.Vc
open Go.RowKit Go.Shelf Go.Maps
variable {B0 : Nat} {A : Nat → Prop} {pl : Value}
section
variable {w : World} {fb : Nat} {nv sv uv done : Value} {came : Nat} {used : Int} {room steps N k : Nat} {D1 D2 D3 : DataW Value} {xs : List Value}
/-- What Remove leaves. -/
def RemoveTo (pl : Value) (A : Nat → Prop) (B0 : Nat) (w : World) (fb : Nat) (came : Nat) (used : Int) (room steps N k : Nat) (D1 D2 D3 : DataW Value) (xs : List Value) (p : ByteArray) (e : Ending) (w' : World) : Prop :=
  e = .returned (.int .i64 0) ∧ pathL p.data.toList = true ∧ Maps.has D1 (key p) = true ∧ ∃ b1 b2 b3 n1 n2 n3 done' u D', n1 ≤ N ∧ n2 ≤ N ∧ n3 ≤ N ∧ u ≤ used ∧ used ≤ u + 100000000 ∧ GoesTo D1 p (pv D1 p) D' ∧ Sg pl A B0 w' fb b1 b2 b3 done' came u room (steps + 1) n1 n2 n3 (k + 1) D' D2 D3 (xs ++ [.int .i64 2, .string p, .string ⟨#[]⟩, .pointer (pv D1 p)]) ∧ ∀ xo, Frm A fb xo w w'
open Classical in
/-- Why something is not taken away. -/
noncomputable def rmE (D : DataW Value) (p : ByteArray) : Int := if pathL p.data.toList then (if Maps.has D (key p) then (if folderB D p (pv D p) = false ∨ NoKids D p then 0 else 32) else 2) else 30
theorem rmE_ok {D : DataW Value} {p : ByteArray} (h1 : pathL p.data.toList = true) (h2 : Maps.has D (key p) = true) (h3 : folderB D p (pv D p) = false ∨ NoKids D p) : rmE D p = 0 := by rw [rmE, if_pos h1, if_pos h2, if_pos h3]
theorem rmE_no {D : DataW Value} {p : ByteArray} (h1 : pathL p.data.toList = true) (h2 : Maps.has D (key p) = true) (h3 : ¬ (folderB D p (pv D p) = false ∨ NoKids D p)) : rmE D p = 32 := by rw [rmE, if_pos h1, if_pos h2, if_neg h3]
set_option maxHeartbeats 1600000 in
set_option maxRecDepth 100000 in
theorem remove_gen (hV : View pl A B0 w fb nv sv uv done came used room steps N k D1 D2 D3 xs) (hm : MaxAt w) (p : ByteArray) (hp : p.size ≤ 140737488355328) (hk : k < 900000) (hs : steps < 900000) (hu1 : -1000000000000000 ≤ used) (hu2 : used ≤ 1000000000000000) (hP : ∀ q, PtrOK A w fb (pv D1 q)) :
    Calls Tryz.prog 53 #[.pointer (some ⟨fb, 0, none⟩), .string p] w fun e w' => (rmE D1 p ≠ 0 ∧ Refd (rmE D1 p) w e w') ∨ (rmE D1 p = 0 ∧ RemoveTo pl A B0 w fb came used room steps N k D1 D2 D3 xs p e w') := by
  obtain ⟨W, hW⟩ : ∃ W, w.alloc (.cells #[.string p] 9) = W := ⟨_, rfl⟩
  have hkW : Kept [] w W := by rw [← hW]; exact Kept.alloc _ _
  have hrow : W.heap[w.heap.size]? = some (.cells #[.string p] 9 (0, 0)) := by rw [← hW]; exact alloc_at rfl
  have hf := hkW.fs hV.fs (by simp)
  have HH := hideIt (hindered_one hf (hkW.max hm (by simp)) p hp w.heap.size 9 hrow)
  have HF : Hid (∀ X, Below W.heap.size W X → Kept [] w X ∧ FsAt X fb nv sv done uv came used room steps false pl) := hideIt (fun X hX => ⟨(hkW.trans (Kept.of_below hX)).sub (by simp), (Kept.of_below hX).fs hf (by simp)⟩)
  cases hpath : pathL p.data.toList with
  | false =>
    have he : errPath p = 30 := by rw [errPath, if_neg (by rw [hpath]; simp)]
    rw [he] at HH
    have HE : Hid (rmE D1 p = 30) := hideIt (by rw [rmE, if_neg (by rw [hpath]; simp)])
    clear hV hm hrow hf hkW he hP
    go_enter Tryz.func53, Tryz.ntmps53
    go_wp2_with (first | (go_at_call 54; refine HH.out.mono ?_; rintro e w1 ⟨rfl, hb1⟩))
    go_ret
    exact .inl (refd_of HE.out (by decide) (HF.out _ hb1).1)
  | true =>
    have he : errPath p = 0 := by rw [errPath, if_pos hpath]
    rw [he] at HH
    have hps := path_size p hpath
    have HV := hideIt hV
    have HPA := hideIt hpath
    have HPO := hideIt hP
    obtain ⟨z, hz⟩ : ∃ z, Maps.has D1 (key p) = z := ⟨_, rfl⟩
    obtain ⟨v, hv⟩ : ∃ v, pv D1 p = v := ⟨_, rfl⟩
    have HL := hideIt (fun X hX => (hV.look X hX p (by omega)).1)
    rw [hz, hv] at HL
    have HVV := hideIt hv
    have HZ := hideIt hz
    have HBR := hideIt (fun X hX => hV.bare X hX p (by omega))
    clear hV hm hrow hf hkW he hz hv hpath hP
    cases z with
    | false =>
      have HE : Hid (rmE D1 p = 2) := hideIt (by rw [rmE, if_pos HPA.out, if_neg (by rw [HZ.out]; simp)])
      go_enter Tryz.func53, Tryz.ntmps53
      go_wp2_with (first | (go_at_call 54; refine HH.out.mono ?_; rintro e w1 ⟨rfl, hb1⟩; obtain ⟨hk1, hf1⟩ := HF.out w1 hb1; have d0 := fs0 hf1; have HK1 := hideIt hk1; have hl := HL.out w1 hk1; clear hk1 hf1))
      go_ret
      exact .inl (refd_of HE.out (by decide) HK1.out)
    | true =>
      have HT := hideIt (fun X hX => HV.out.step X hX hs)
      by_cases hbn : folderB D1 p (pv D1 p) = false ∨ NoKids D1 p
      · have HBN := hideIt hbn
        clear hbn
        go_enter Tryz.func53, Tryz.ntmps53
        go_wp2_with (first | (go_at_call 54; refine HH.out.mono ?_; rintro e w1 ⟨rfl, hb1⟩; obtain ⟨hk1, hf1⟩ := HF.out w1 hb1; have d0 := fs0 hf1; have HK1 := hideIt hk1; have hl := HL.out w1 hk1; clear hk1 hf1) | (go_at_call 48; refine (HBR.out _ HK1.out).mono ?_; rintro e w5 ⟨y, rfl, hy, hk5⟩; obtain rfl : y = true := hy.2 HBN.out; have HK5 := hideIt ((HK1.out.trans hk5).sub (cs := []) (by simp)); clear hy hk5) |
          (go_at_call 64; refine (HT.out _ HK5.out).mono ?_; rintro e w2 ⟨rfl, b1, b2, b3, n1, n2, n3, q1, q2, q3, p1, p2, p3, hS, hk2⟩; have HS := hideIt hS; have HR2 := hideIt (fun xo => (Frm.kept0 (A := A) (xo := xo) HK5.out).trans (Frm.fs1 hk2 (HK5.out.fs HV.out.fs (by simp)) HV.out.a0)); clear hS hk2) |
          (go_at_call 68; refine (unlink_sg HS.out HV.out.ptrs p (by omega) ((HPO.out p).frm (HR2.out NoX)) hu1 hu2).mono ?_; rintro e w6 ⟨rfl, u, hu3, hu4, hS6, ht6⟩; have HS6 := hideIt hS6; have HR6 := hideIt (fun xo => (HR2.out xo).trans (Frm.of_tell (xo := xo) ht6 HS.out.inFs HS.out.a0)); clear hS6 ht6) |
          (go_at_call 66; refine (clone_any p _ hp).mono ?_; rintro e w3 ⟨rfl, hb3⟩; have HS3 := hideIt (HS6.out.keep0 (Kept.of_below hb3)); have HR3 := hideIt (fun xo => (HR6.out xo).trans (Frm.kept0 (Kept.of_below hb3))); clear hb3) |
          (go_at_call 65; refine (enact_sg HS3.out (by omega) 2 p ⟨#[]⟩ v (GoesTo D1 p v) n1 (fun X hX => do_goes_gen (hX.map HS3.out.m1 (by simp)) HV.out.ptrs HV.out.keys p ⟨#[]⟩ (by omega) v (fun Y hY => by have q := (HPO.out p).frm (HR3.out NoX); rw [HVV.out] at q ⊢; exact ptr_eql q q Y ((hX.trans hY).sub (by simp))))).mono ?_; rintro e w4 ⟨rfl, D', done', hD', hS4, hk4⟩; have HS4 := hideIt hS4; have HR4 := hideIt (fun xo => (HR3.out xo).trans (Frm.of_kept (xo := xo) hk4 (fun b hb => HS3.out.inner b (by simp at hb ⊢; rcases hb with hb | hb | hb <;> simp [hb])))); have HDP := hideIt hD'; clear hS4 hk4 hD'))
        go_ret
        exact .inr ⟨rmE_ok HPA.out HZ.out HBN.out, rfl, HPA.out, HZ.out, b1, b2, b3, n1, n2, n3, done', u, D', q1, q2, q3, hu3, hu4, by rw [HVV.out]; exact HDP.out, by rw [HVV.out]; exact HS4.out, HR4.out⟩
      · have HBN := hideIt hbn
        clear hbn
        go_enter Tryz.func53, Tryz.ntmps53
        go_wp2_with (first | (go_at_call 54; refine HH.out.mono ?_; rintro e w1 ⟨rfl, hb1⟩; obtain ⟨hk1, hf1⟩ := HF.out w1 hb1; have d0 := fs0 hf1; have HK1 := hideIt hk1; have hl := HL.out w1 hk1; clear hk1 hf1) | (go_at_call 48; refine (HBR.out _ HK1.out).mono ?_; rintro e w5 ⟨y, rfl, hy, hk5⟩; obtain rfl : y = false := (by cases y with | false => rfl | true => exact absurd (hy.1 rfl) HBN.out); have HK5 := hideIt ((HK1.out.trans hk5).sub (cs := []) (by simp)); clear hy hk5) |
          (go_at_call 64; refine (HT.out _ HK5.out).mono ?_; rintro e w2 ⟨rfl, b1, b2, b3, n1, n2, n3, q1, q2, q3, p1, p2, p3, hS, hk2⟩; have HS := hideIt hS; have HR2 := hideIt (fun xo => (Frm.kept0 (A := A) (xo := xo) HK5.out).trans (Frm.fs1 hk2 (HK5.out.fs HV.out.fs (by simp)) HV.out.a0)); clear hS hk2) |
          (go_at_call 68; refine (unlink_sg HS.out HV.out.ptrs p (by omega) ((HPO.out p).frm (HR2.out NoX)) hu1 hu2).mono ?_; rintro e w6 ⟨rfl, u, hu3, hu4, hS6, ht6⟩; have HS6 := hideIt hS6; have HR6 := hideIt (fun xo => (HR2.out xo).trans (Frm.of_tell (xo := xo) ht6 HS.out.inFs HS.out.a0)); clear hS6 ht6) |
          (go_at_call 66; refine (clone_any p _ hp).mono ?_; rintro e w3 ⟨rfl, hb3⟩; have HS3 := hideIt (HS6.out.keep0 (Kept.of_below hb3)); have HR3 := hideIt (fun xo => (HR6.out xo).trans (Frm.kept0 (Kept.of_below hb3))); clear hb3) |
          (go_at_call 65; refine (enact_sg HS3.out (by omega) 2 p ⟨#[]⟩ v (GoesTo D1 p v) n1 (fun X hX => do_goes_gen (hX.map HS3.out.m1 (by simp)) HV.out.ptrs HV.out.keys p ⟨#[]⟩ (by omega) v (fun Y hY => by have q := (HPO.out p).frm (HR3.out NoX); rw [HVV.out] at q ⊢; exact ptr_eql q q Y ((hX.trans hY).sub (by simp))))).mono ?_; rintro e w4 ⟨rfl, D', done', hD', hS4, hk4⟩; have HS4 := hideIt hS4; have HR4 := hideIt (fun xo => (HR3.out xo).trans (Frm.of_kept (xo := xo) hk4 (fun b hb => HS3.out.inner b (by simp at hb ⊢; rcases hb with hb | hb | hb <;> simp [hb])))); have HDP := hideIt hD'; clear hS4 hk4 hD'))
        go_ret
        exact .inl (refd_of (rmE_no HPA.out HZ.out HBN.out) (by decide) HK5.out)
end
end Go.Proofs.YtknmmlfdlfioiaaGreatDoor.Vc
namespace Go.Proofs.YtknmmlfdlfioiaaGreatDoor.Vc
open Go.RowKit Go.Shelf Go.Maps
variable {B0 : Nat} {A : Nat → Prop} {pl : Value}
section
variable {w : World} {fb : Nat} {nv sv uv done : Value} {came : Nat} {used : Int} {room steps N k : Nat} {D1 D2 D3 : DataW Value} {xs : List Value}
/-- When Rename is done. -/
def RenameOK (D1 : DataW Value) (p to : ByteArray) : Prop :=
  pathL p.data.toList = true ∧ pathL to.data.toList = true ∧ Maps.has D1 (key p) = true ∧ (pv D1 p).isSome = true ∧ p.data.toList ≠ to.data.toList ∧ folderB D1 (dirOf to) (pv D1 (dirOf to)) = true ∧ folderB D1 to (pv D1 to) = false
/-- What Rename leaves. -/
def RenameTo (pl : Value) (A : Nat → Prop) (B0 : Nat) (w : World) (fb : Nat) (came : Nat) (used : Int) (room steps N k : Nat) (D1 D2 D3 : DataW Value) (xs : List Value) (p to : ByteArray) (e : Ending) (w' : World) : Prop :=
  e = .returned (.int .i64 0) ∧ RenameOK D1 p to ∧ ∃ b1 b2 b3 n1 n2 n3 done' u D', n1 ≤ N + 1 ∧ n2 ≤ N ∧ n3 ≤ N ∧ u ≤ used ∧ used ≤ u + 100000000 ∧ MovesTo D1 p to (pv D1 p) D' ∧ Sg pl A B0 w' fb b1 b2 b3 done' came u room (steps + 1) n1 n2 n3 (k + 1) D' D2 D3 (xs ++ [.int .i64 1, .string p, .string to, .pointer (pv D1 p)]) ∧ ∀ xo, Frm A fb xo w w'
/-- Why a file gets no other name. -/
def rnE (D : DataW Value) (p to : ByteArray) : Int := if pathL p.data.toList = true ∧ pathL to.data.toList = true then (if Maps.has D (key p) then (if (pv D p).isSome then (if p.toList == to.toList then 1 else (if folderB D (dirOf to) (pv D (dirOf to)) then (if folderB D to (pv D to) then 31 else 0) else 2)) else 31) else 2) else 30
set_option maxHeartbeats 3200000 in
set_option maxRecDepth 100000 in
theorem rename_gen (hV : View pl A B0 w fb nv sv uv done came used room steps N k D1 D2 D3 xs) (hm : MaxAt w) (p to : ByteArray) (hp : p.size ≤ 140737488355328) (ht : to.size ≤ 140737488355328) (hN : N < 900000) (hk : k < 900000) (hs : steps < 900000) (hu1 : -1000000000000000 ≤ used) (hu2 : used ≤ 1000000000000000) (hP : ∀ q, PtrOK A w fb (pv D1 q)) :
    Calls Tryz.prog 42 #[.pointer (some ⟨fb, 0, none⟩), .string p, .string to] w fun e w' => (rnE D1 p to ≠ 0 ∧ Refd (rnE D1 p to) w e w') ∨ (rnE D1 p to = 0 ∧ RenameTo pl A B0 w fb came used room steps N k D1 D2 D3 xs p to e w') := by
  obtain ⟨W, hW⟩ : ∃ W, w.alloc (.cells #[.string p, .string to] 9) = W := ⟨_, rfl⟩
  have hkW : Kept [] w W := by rw [← hW]; exact Kept.alloc _ _
  have hrow : W.heap[w.heap.size]? = some (.cells #[.string p, .string to] 9 (0, 0)) := by rw [← hW]; exact alloc_at rfl
  have hf := hkW.fs hV.fs (by simp)
  have HH := hideIt (hindered_two hf (hkW.max hm (by simp)) p to hp ht w.heap.size 9 hrow)
  have HF : Hid (∀ X, Kept [] W X → Kept [] w X ∧ FsAt X fb nv sv done uv came used room steps false pl) := hideIt (fun X hX => ⟨(hkW.trans hX).sub (by simp), hX.fs hf (by simp)⟩)
  by_cases hpath : pathL p.data.toList = true ∧ pathL to.data.toList = true
  · obtain ⟨hpa, hta⟩ := hpath
    have he : errTwo p to = 0 := by rw [errTwo, if_pos hpa, errPath, if_pos hta]
    rw [he] at HH
    have hps := path_size p hpa
    have hts := path_size to hta
    have hds := dir_size to (by omega)
    have HV := hideIt hV
    have HPO := hideIt hP
    obtain ⟨z, hz⟩ : ∃ z, Maps.has D1 (key p) = z := ⟨_, rfl⟩
    obtain ⟨v, hv⟩ : ∃ v, pv D1 p = v := ⟨_, rfl⟩
    have HFI := hideIt (fun X hX => hV.file X hX p (by omega))
    rw [hz, hv] at HFI
    have HD := hideIt (fun X => folderOf_any to X ht)
    obtain ⟨d, hd⟩ : ∃ d, dirOf to = d := ⟨_, rfl⟩
    have HFO := hideIt (fun X hX => hV.fold X hX d (by rw [← hd]; exact hds))
    have HFT := hideIt (fun X hX => hV.fold X hX to (by omega))
    rw [hd] at HD
    obtain ⟨y, hy⟩ : ∃ y, folderB D1 d (pv D1 d) = y := ⟨_, rfl⟩
    obtain ⟨x, hx⟩ : ∃ x, folderB D1 to (pv D1 to) = x := ⟨_, rfl⟩
    rw [hy] at HFO
    rw [hx] at HFT
    obtain ⟨q, hq⟩ : ∃ q, (p.toList == to.toList) = q := ⟨_, rfl⟩
    have HOK : Hid (RenameOK D1 p to ↔ z = true ∧ v.isSome = true ∧ q = false ∧ y = true ∧ x = false) := by
      refine hideIt ?_
      unfold RenameOK
      rw [hz, hv, hd, hy, hx, ← hq, ByteArray.toList_eq, ByteArray.toList_eq]
      simp only [hpa, hta, true_and, beq_eq_false_iff_ne, ne_eq]
    have HVV := hideIt hv
    have HE : Hid (rnE D1 p to = if z then (if v.isSome then (if q then 1 else (if y then (if x then 31 else 0) else 2)) else 31) else 2) := hideIt (by rw [rnE, if_pos ⟨hpa, hta⟩, hz, hv, hq, hd, hy, hx])
    clear hV hm hrow hf hkW he hz hv hpa hta hP hd hy hx
    cases z with
    | false =>
      go_enter Tryz.func42, Tryz.ntmps42
      go_wp2_with (first | (go_at_call 54; refine HH.out.mono ?_; rintro e w1 ⟨rfl, hb1⟩; have HK1 := hideIt (HF.out w1 hb1).1) | (go_at_call 55; refine (HFI.out _ HK1.out).mono ?_; rintro e wx ⟨rfl, hwx⟩; obtain rfl := hwx.symm; simp only [fileR]))
      go_ret
      exact .inl (refd_of (E' := 2) HE.out (by decide) HK1.out)
    | true =>
      cases v with
      | none =>
        go_enter Tryz.func42, Tryz.ntmps42
        go_wp2_with (first | (go_at_call 54; refine HH.out.mono ?_; rintro e w1 ⟨rfl, hb1⟩; have HK1 := hideIt (HF.out w1 hb1).1) | (go_at_call 55; refine (HFI.out _ HK1.out).mono ?_; rintro e wx ⟨rfl, hwx⟩; obtain rfl := hwx.symm; simp only [fileR]))
        go_ret
        exact .inl (refd_of (E' := 31) HE.out (by decide) HK1.out)
      | some va =>
        cases q with
        | true =>
          go_enter Tryz.func42, Tryz.ntmps42
          go_wp2_with (first | (go_at_call 54; refine HH.out.mono ?_; rintro e w1 ⟨rfl, hb1⟩; have HK1 := hideIt (HF.out w1 hb1).1) | (go_at_call 55; refine (HFI.out _ HK1.out).mono ?_; rintro e wx ⟨rfl, hwx⟩; obtain rfl := hwx.symm; simp only [fileR]))
          go_ret
          exact .inl (refd_of (E' := 1) HE.out (by decide) HK1.out)
        | false =>
          have hq2 : ¬ p.toList = to.toList := beq_eq_false_iff_ne.1 hq
          cases y with
          | false =>
            go_enter Tryz.func42, Tryz.ntmps42
            go_wp2_with (first | (go_at_call 54; refine HH.out.mono ?_; rintro e w1 ⟨rfl, hb1⟩; have HK1 := hideIt (HF.out w1 hb1).1; have d0 := fs0 (HF.out w1 hb1).2) | (go_at_call 55; refine (HFI.out _ HK1.out).mono ?_; rintro e wx ⟨rfl, hwx⟩; obtain rfl := hwx.symm; simp only [fileR]))
            go_region_held3 (fun X => X.cell? ⟨fb, 0, none⟩ = some nv) (first | exact d0 | assumption) (first | (go_at_call 47; refine (HD.out _).mono ?_; rintro e wx ⟨rfl, rfl⟩) | (go_at_call 46; refine (HFO.out _ (by exact HK1.out.drew)).mono ?_; rintro e wx ⟨rfl, rfl⟩))
            go_wp2
            go_ret
            exact .inl (refd_of (E' := 2) HE.out (by decide) HK1.out.drew)
          | true =>
            cases x with
            | true =>
              go_enter Tryz.func42, Tryz.ntmps42
              go_wp2_with (first | (go_at_call 54; refine HH.out.mono ?_; rintro e w1 ⟨rfl, hb1⟩; have HK1 := hideIt (HF.out w1 hb1).1; have d0 := fs0 (HF.out w1 hb1).2) | (go_at_call 55; refine (HFI.out _ HK1.out).mono ?_; rintro e wx ⟨rfl, hwx⟩; obtain rfl := hwx.symm; simp only [fileR]))
              go_region_held3 (fun X => X.cell? ⟨fb, 0, none⟩ = some nv) (first | exact d0 | assumption) (first | (go_at_call 47; refine (HD.out _).mono ?_; rintro e wx ⟨rfl, rfl⟩) | (go_at_call 46; refine (HFO.out _ (by exact HK1.out.drew)).mono ?_; rintro e wx ⟨rfl, rfl⟩))
              go_wp2_with (first | (go_at_call 46; refine (HFT.out _ (by exact HK1.out.drew)).mono ?_; rintro e wx ⟨rfl, hwx⟩; obtain rfl := hwx.symm))
              go_ret
              exact .inl (refd_of (E' := 31) HE.out (by decide) HK1.out.drew)
            | false =>
              have HYES : Hid (RenameOK D1 p to) := hideIt (by rw [HOK.out]; simp)
              have HT := hideIt (fun X hX => HV.out.step X hX hs)
              go_enter Tryz.func42, Tryz.ntmps42
              go_wp2_with (first | (go_at_call 54; refine HH.out.mono ?_; rintro e w1 ⟨rfl, hb1⟩; have HK1 := hideIt (HF.out w1 hb1).1; have d0 := fs0 (HF.out w1 hb1).2) | (go_at_call 55; refine (HFI.out _ HK1.out).mono ?_; rintro e wx ⟨rfl, hwx⟩; obtain rfl := hwx.symm; simp only [fileR]))
              go_region_held3 (fun X => X.cell? ⟨fb, 0, none⟩ = some nv) (first | exact d0 | assumption) (first | (go_at_call 47; refine (HD.out _).mono ?_; rintro e wx ⟨rfl, rfl⟩) | (go_at_call 46; refine (HFO.out _ (by exact HK1.out.drew)).mono ?_; rintro e wx ⟨rfl, rfl⟩))
              go_wp2_with (first | (go_at_call 46; refine (HFT.out _ (by exact HK1.out.drew)).mono ?_; rintro e wx ⟨rfl, hwx⟩; obtain rfl := hwx.symm) |
                (go_at_call 64; refine (HT.out _ HK1.out.drew).mono ?_; rintro e w2 ⟨rfl, b1, b2, b3, n1, n2, n3, q1, q2, q3, p1, p2, p3, hS, hk2⟩; have HS := hideIt hS; have HR2 := hideIt (fun xo => (Frm.kept0 (A := A) (xo := xo) HK1.out.drew).trans (Frm.fs1 hk2 (HK1.out.drew.fs HV.out.fs (by simp)) HV.out.a0)); clear hS hk2) |
                (go_at_call 68; refine (unlink_sg HS.out HV.out.ptrs to (by omega) ((HPO.out to).frm (HR2.out NoX)) hu1 hu2).mono ?_; rintro e w6 ⟨rfl, u, hu3, hu4, hS6, ht6⟩; have HS6 := hideIt hS6; have HR6 := hideIt (fun xo => (HR2.out xo).trans (Frm.of_tell (xo := xo) ht6 HS.out.inFs HS.out.a0)); clear hS6 ht6) |
                (go_at_call_of 66 (Value.string p); refine (clone_any p _ hp).mono ?_; rintro e w3 ⟨rfl, hb3⟩; have HS3 := hideIt (HS6.out.keep0 (Kept.of_below hb3)); have HR3 := hideIt (fun xo => (HR6.out xo).trans (Frm.kept0 (Kept.of_below hb3))); clear hb3) |
                (go_at_call 66; refine (clone_any to _ ht).mono ?_; rintro e w7 ⟨rfl, hb7⟩; have HS7 := hideIt (HS3.out.keep0 (Kept.of_below hb7)); have HR7 := hideIt (fun xo => (HR3.out xo).trans (Frm.kept0 (Kept.of_below hb7))); clear hb7) |
                (go_at_call 65; refine (enact_sg HS7.out (by omega) 1 p to (some va) (MovesTo D1 p to (some va)) (n1 + 1) (fun X hX => do_moves_gen (hX.map HS7.out.m1 (by simp)) (by omega) HV.out.ptrs HV.out.keys p to (by omega) (by omega) (some va) (fun Y hY => by have q := (HPO.out p).frm (HR7.out NoX); rw [HVV.out] at q ⊢; exact ptr_eql q q Y ((hX.trans hY).sub (by simp))))).mono ?_; rintro e w4 ⟨rfl, D', done', hD', hS4, hk4⟩; have HS4 := hideIt hS4; have HR4 := hideIt (fun xo => (HR7.out xo).trans (Frm.of_kept (xo := xo) hk4 (fun b hb => HS7.out.inner b (by simp at hb ⊢; rcases hb with hb | hb | hb <;> simp [hb])))); have HDP := hideIt hD'; clear hS4 hk4 hD'))
              go_ret
              exact .inr ⟨HE.out, rfl, HYES.out, b1, b2, b3, n1 + 1, n2, n3, done', u, D', by omega, q2, q3, hu3, hu4, by rw [HVV.out]; exact HDP.out, by rw [HVV.out]; exact HS4.out, HR4.out⟩
  · have he : errTwo p to = 30 := by
      unfold errTwo errPath
      by_cases h1 : pathL p.data.toList = true
      · rw [if_pos h1, if_neg (fun h2 => hpath ⟨h1, h2⟩)]
      · rw [if_neg h1]
    rw [he] at HH
    have HE : Hid (rnE D1 p to = 30) := hideIt (by rw [rnE, if_neg hpath])
    clear hV hm hrow hf hkW he hP hpath
    go_enter Tryz.func42, Tryz.ntmps42
    go_wp2_with (first | (go_at_call 54; refine HH.out.mono ?_; rintro e w1 ⟨rfl, hb1⟩))
    go_ret
    exact .inl (refd_of HE.out (by decide) (HF.out _ hb1).1)
end
end Go.Proofs.YtknmmlfdlfioiaaGreatDoor.Vc
namespace Go.Proofs.YtknmmlfdlfioiaaGreatDoor.Vc
open Go.RowKit Go.Shelf Go.Maps
variable {B0 : Nat} {A : Nat → Prop} {pl : Value}
/-- The unsure ones behind a laying. -/
def LayTo (D3 : DataW Value) (num xb : Nat) (a s : ByteArray) : DataW Value := if a.data.toList = s.data.toList then D3.del (.int .i64 num) else D3.put (.int .i64 num) (.held (.pointer (some ⟨xb, 0, none⟩)))
section
variable {w : World} {fb b1 b2 b3 : Nat} {nv sv uv done : Value} {came : Nat} {used : Int} {room steps n1 n2 n3 N k : Nat} {D1 D2 D3 : DataW Value} {xs : List Value}
theorem Frm.of_lay {w' : World} {xo : Nat → Prop} {xb num : Nat} {now sure a s : ByteArray} {links : Int} (hF : FileAt w xb num now sure links) (hF' : FileAt w' xb num a s links) (hk : Kept [xb, b3] w w') (h3 : Inner A w b3) (hfx : fb ≠ xb) (hnum : num < 1000000) (ha : a.size ≤ 100000000) (hs : s.size ≤ 100000000) (hx : ¬ xo xb) (hAx : A xb) : Frm A fb xo w w' := by
  have key : ∀ (g : Nat) (cs : Array Value) (t : TypeId) (fr : Nat × Nat), w.heap[g]? = some (.cells cs t fr) → t ≠ 54 → t ≠ 69 → g ≠ xb → w'.heap[g]? = some (.cells cs t fr) := by
    intro g cs t fr hg h1 h2 hgx
    rw [hk.block g (block_lt hg) (by simp; exact ⟨hgx, h3.ne hg h1 h2⟩)]
    exact hg
  refine ⟨hk.os, hk.tape, hk.output, hk.size, ?_, ?_, ?_, ?_, fun yb num' now' sure' l' hY => ?_⟩
  · intro g cs t fr hg h1 h2 h4
    refine key g cs t fr hg h1 h4 (fun e => ?_)
    subst e
    unfold FileAt at hF
    rw [hg] at hF
    simp only [Option.some.injEq, Obj.cells.injEq] at hF
    exact h2 hF.2.1
  · intro g o hg hA
    rw [hk.block g (block_lt hg) (by
      simp
      exact ⟨fun e => hA (by rw [e]; exact hAx), h3.neM hg hA⟩)]
    exact hg
  · rintro yb ⟨hAy, num', now', sure', l', hY, r⟩
    by_cases e : yb = xb
    · subst e
      exact ⟨hAx, num, a, s, links, hF', hfx, hnum, ha, hs⟩
    · exact ⟨hAy, num', now', sure', l', key _ _ _ _ hY (by decide) (by decide) e, r⟩
  · intro yb num' now' sure' l hyb hY
    exact ⟨l, key _ _ _ _ hY (by decide) (by decide) (fun e => hx (by rw [← e]; exact hyb))⟩
  · by_cases e : yb = xb
    · subst e
      have hF2 := hF
      unfold FileAt at hF2 hY
      rw [hF2] at hY
      simp only [Option.some.injEq, Obj.cells.injEq, filev] at hY
      have e3 := hY.1
      simp at e3
      obtain ⟨e4, _⟩ := e3
      rw [← e4]
      exact ⟨a, s, links, hF'⟩
    · exact ⟨now', sure', l', key _ _ _ _ hY (by decide) (by decide) e⟩
/-- A file's bytes laid. -/
theorem lay_sg (h : Sg pl A B0 w fb b1 b2 b3 done came used room steps n1 n2 n3 k D1 D2 D3 xs) {xb num : Nat} {now sure : ByteArray} {links : Int} (hF : FileAt w xb num now sure links) (hfx : fb ≠ xb) (hnum : num < 1000000) (hn3 : n3 < 1000000) (a s : ByteArray) (ha : a.size ≤ 100000000) (hs : s.size ≤ 100000000) (hAx : A xb) :
    Calls Tryz.prog 67 #[.pointer (some ⟨fb, 0, none⟩), .pointer (some ⟨xb, 0, none⟩), .string a, .string s] w fun e w' => e = .returned (.tuple #[]) ∧
      (∃ n3', n3' ≤ n3 + 1 ∧ Sg pl A B0 w' fb b1 b2 b3 done came used room steps n1 n2 n3' k D1 D2 (LayTo D3 num xb a s) xs) ∧ FileAt w' xb num a s links ∧ ∀ xo, ¬ xo xb → Frm A fb xo w w' := by
  have e1 := file_ne_map hF h.m1
  have e2 := file_ne_map hF h.m2
  have e0 := file_ne_map h.fs h.m3
  have e4 := row_ne_cells h.row hF (by decide)
  have e5 := row_ne_map h.row h.m3
  have fin : ∀ w' D n', FileAt w' xb num a s links → UMap w' b3 n' D → Kept [xb, b3] w w' → Sg pl A B0 w' fb b1 b2 b3 done came used room steps n1 n2 n' k D1 D2 D xs ∧ ∀ xo, ¬ xo xb → Frm A fb xo w w' := by
    intro w' D n' h1 h2 h3
    refine ⟨⟨h3.fs h.fs ?_, h3.map h.m1 ?_, h3.map h.m2 ?_, h2, h3.row h.row ?_, h.d12, h.d13, h.d23, Nat.le_trans h.ba h3.size, h.a1, h.a2, h.a3, h.a0, h.a4, fun g hg => h.aw g (Nat.le_trans h3.size hg)⟩, fun xo hx => Frm.of_lay hF h1 h3 (h.inner b3 (by simp)) hfx hnum ha hs hx hAx⟩
    · simp; exact ⟨hfx, e0⟩
    · simp; exact ⟨fun e => e1 e.symm, h.d13⟩
    · simp; exact ⟨fun e => e2 e.symm, h.d23⟩
    · intro g hg
      rw [hg] at e4 e5
      simp at e4 e5 ⊢
      exact ⟨fun e => e4 e.symm, fun e => e5 e.symm⟩
  by_cases hab : a.data.toList = s.data.toList
  · obtain rfl : a = s := by rw [← bs_data a, ← bs_data s, hab]
    rw [LayTo, if_pos rfl]
    exact (lay_same h.fs hF h.m3 hfx hnum a).mono fun e w' ⟨h0, h1, h2, h3⟩ => ⟨h0, ⟨n3, by omega, (fin w' _ _ h1 h2 h3).1⟩, h1, (fin w' _ _ h1 h2 h3).2⟩
  · rw [LayTo, if_neg hab]
    exact (lay_other h.fs hF h.m3 hfx hnum hn3 a s hab).mono fun e w' ⟨h0, h1, h2, h3⟩ => ⟨h0, ⟨n3 + 1, by omega, (fin w' _ _ h1 h2 h3).1⟩, h1, (fin w' _ _ h1 h2 h3).2⟩
/-- Why there is no file. -/
def syE (D : DataW Value) (p : ByteArray) : Int := if pathL p.data.toList then (if Maps.has D (key p) then (if (pv D p).isSome then 0 else 31) else 2) else 30
def SyncOK (D1 : DataW Value) (p : ByteArray) : Prop := pathL p.data.toList = true ∧ Maps.has D1 (key p) = true ∧ (pv D1 p).isSome = true
def SyncTo (pl : Value) (A : Nat → Prop) (B0 : Nat) (w : World) (fb : Nat) (came : Nat) (used : Int) (room steps N k : Nat) (D1 D2 D3 : DataW Value) (xs : List Value) (p : ByteArray) (e : Ending) (w' : World) : Prop :=
  e = .returned (.int .i64 0) ∧ SyncOK D1 p ∧ ∃ (b1 b2 b3 n1 n2 n3 : Nat) (done' : Value) (xb num : Nat) (now sure : ByteArray) (links links' : Int), n1 ≤ N ∧ n2 ≤ N ∧ n3 ≤ N + 1 ∧ pv D1 p = some ⟨xb, 0, none⟩ ∧ FileAt w xb num now sure links ∧ FileAt w' xb num now now links' ∧
    Sg pl A B0 w' fb b1 b2 b3 done' came used room (steps + 1) n1 n2 n3 k D1 D2 (LayTo D3 num xb now now) xs ∧ ∀ xo, ¬ xo xb → Frm A fb xo w w'
set_option maxHeartbeats 1600000 in
set_option maxRecDepth 100000 in
theorem sync_gen (hV : View pl A B0 w fb nv sv uv done came used room steps N k D1 D2 D3 xs) (hm : MaxAt w) (p : ByteArray) (hp : p.size ≤ 140737488355328) (hN : N < 900000) (hs : steps < 900000) (hP : ∀ q, PtrOK A w fb (pv D1 q)) :
    Calls Tryz.prog 41 #[.pointer (some ⟨fb, 0, none⟩), .string p] w fun e w' => (syE D1 p ≠ 0 ∧ Refd (syE D1 p) w e w') ∨ (syE D1 p = 0 ∧ SyncTo pl A B0 w fb came used room steps N k D1 D2 D3 xs p e w') := by
  obtain ⟨W, hW⟩ : ∃ W, w.alloc (.cells #[.string p] 9) = W := ⟨_, rfl⟩
  have hkW : Kept [] w W := by rw [← hW]; exact Kept.alloc _ _
  have hrow : W.heap[w.heap.size]? = some (.cells #[.string p] 9 (0, 0)) := by rw [← hW]; exact alloc_at rfl
  have hf := hkW.fs hV.fs (by simp)
  have HH := hideIt (hindered_one hf (hkW.max hm (by simp)) p hp w.heap.size 9 hrow)
  have HF : Hid (∀ X, Below W.heap.size W X → Kept [] w X) := hideIt (fun X hX => (hkW.trans (Kept.of_below hX)).sub (by simp))
  cases hpath : pathL p.data.toList with
  | false =>
    have he : errPath p = 30 := by rw [errPath, if_neg (by rw [hpath]; simp)]
    rw [he] at HH
    have HE : Hid (syE D1 p = 30) := hideIt (by rw [syE, if_neg (by rw [hpath]; simp)])
    clear hV hm hrow hf hkW he hP
    go_enter Tryz.func41, Tryz.ntmps41
    go_wp2_with (first | (go_at_call 54; refine HH.out.mono ?_; rintro e w1 ⟨rfl, hb1⟩))
    go_ret
    exact .inl (refd_of HE.out (by decide) (HF.out _ hb1))
  | true =>
    have he : errPath p = 0 := by rw [errPath, if_pos hpath]
    rw [he] at HH
    have hps := path_size p hpath
    have HV := hideIt hV
    obtain ⟨z, hz⟩ : ∃ z, Maps.has D1 (key p) = z := ⟨_, rfl⟩
    obtain ⟨v, hv⟩ : ∃ v, pv D1 p = v := ⟨_, rfl⟩
    have HFI := hideIt (fun X hX => hV.file X hX p (by omega))
    rw [hz, hv] at HFI
    have HE : Hid (syE D1 p = if z then (if v.isSome then 0 else 31) else 2) := hideIt (by rw [syE, if_pos hpath, hz, hv])
    have HOK : Hid (SyncOK D1 p ↔ z = true ∧ v.isSome = true) := hideIt (by unfold SyncOK; rw [hz, hv, hpath]; simp)
    have hPp := hP p
    rw [hv] at hPp
    have HVV := hideIt hv
    clear hV hm hrow hf hkW he hz hv hpath hP
    cases z with
    | false =>
      go_enter Tryz.func41, Tryz.ntmps41
      go_wp2_with (first | (go_at_call 54; refine HH.out.mono ?_; rintro e w1 ⟨rfl, hb1⟩; have HK1 := hideIt (HF.out w1 hb1)) | (go_at_call 55; refine (HFI.out _ HK1.out).mono ?_; rintro e wx ⟨rfl, hwx⟩; obtain rfl := hwx.symm; simp only [fileR]))
      go_ret
      exact .inl (refd_of (E' := 2) HE.out (by decide) HK1.out)
    | true =>
      rcases hPp with rfl | ⟨xb, rfl, hAx, num, now, sure, links, hFx, hfx, hnum, hns, hss⟩
      · go_enter Tryz.func41, Tryz.ntmps41
        go_wp2_with (first | (go_at_call 54; refine HH.out.mono ?_; rintro e w1 ⟨rfl, hb1⟩; have HK1 := hideIt (HF.out w1 hb1)) | (go_at_call 55; refine (HFI.out _ HK1.out).mono ?_; rintro e wx ⟨rfl, hwx⟩; obtain rfl := hwx.symm; simp only [fileR]))
        go_ret
        exact .inl (refd_of (E' := 31) HE.out (by decide) HK1.out)
      · have HYES : Hid (SyncOK D1 p) := hideIt (by rw [HOK.out]; simp)
        have HFX := hideIt hFx
        have HT : Hid (∀ X, Kept [] w X → Calls Tryz.prog 64 #[.pointer (some ⟨fb, 0, none⟩)] X fun e w2 => e = .returned (.int .i64 0) ∧ ∃ b1 b2 b3 n1 n2 n3, n1 ≤ N ∧ n2 ≤ N ∧ n3 ≤ N ∧ FileAt w2 xb num now sure links ∧ Sg pl A B0 w2 fb b1 b2 b3 done came used room (steps + 1) n1 n2 n3 k D1 D2 D3 xs ∧ ∀ xo, Frm A fb xo w w2) := hideIt (fun X hX =>
          (HV.out.step X hX hs).mono fun e w2 ⟨a1, b1, b2, b3, n1, n2, n3, q1, q2, q3, p1, p2, p3, hS, hk2⟩ => ⟨a1, b1, b2, b3, n1, n2, n3, q1, q2, q3, hk2.fs (hX.fs HFX.out (by simp)) (by simpa using fun e => hfx e.symm), hS, fun xo => (Frm.kept0 hX).trans (Frm.fs1 hk2 (hX.fs HV.out.fs (by simp)) HV.out.a0)⟩)
        clear hFx
        go_enter Tryz.func41, Tryz.ntmps41
        go_wp2_with (first | (go_at_call 54; refine HH.out.mono ?_; rintro e w1 ⟨rfl, hb1⟩; have HK1 := hideIt (HF.out w1 hb1)) | (go_at_call 55; refine (HFI.out _ HK1.out).mono ?_; rintro e wx ⟨rfl, hwx⟩; obtain rfl := hwx.symm; simp only [fileR]) | (go_at_call 64; refine (HT.out _ HK1.out).mono ?_; rintro e w2 ⟨rfl, b1, b2, b3, n1, n2, n3, q1, q2, q3, hF2, hS2, hr2⟩))
        have x1 := fl1 hF2
        have HL2 : Hid (Calls Tryz.prog 67 #[.pointer (some ⟨fb, 0, none⟩), .pointer (some ⟨xb, 0, none⟩), .string now, .string now] w2.drew fun e w' => e = .returned (.tuple #[]) ∧ (∃ n3', n3' ≤ n3 + 1 ∧ Sg pl A B0 w' fb b1 b2 b3 done came used room (steps + 1) n1 n2 n3' k D1 D2 (LayTo D3 num xb now now) xs) ∧ FileAt w' xb num now now links ∧ ∀ xo, ¬ xo xb → Frm A fb xo w w') := by
          have hd0 : Kept [] w2 w2.drew := (Kept.refl [] w2).drew
          exact hideIt ((lay_sg (hS2.keep0 hd0) (hd0.fs hF2 (by simp)) hfx hnum (by omega) now now hns hns hAx).mono fun e w' ⟨a1, a2, a3, a4⟩ => ⟨a1, a2, a3, fun xo hx => ((hr2 xo).trans (Frm.kept0 hd0)).trans (a4 xo hx)⟩)
        clear hS2 hF2 hr2
        go_region_held3 (fun X => X.cell? ⟨xb, 1, none⟩ = some (.string now)) (first | exact x1 | exact fl1 (by assumption) | assumption) (first | (go_at_call 67; refine HL2.out.mono ?_; rintro e w3 ⟨rfl, ⟨n3', q4, hS3⟩, hF3, hr3⟩))
        go_wp2
        go_ret
        exact .inr ⟨HE.out, rfl, HYES.out, b1, b2, b3, n1, n2, n3', done, xb, num, now, sure, links, links, q1, q2, by omega, HVV.out, HFX.out, hF3, hS3, hr3⟩
/-- Read: a file's bytes, or why there is none. -/
def ReadTo (w : World) (D : DataW Value) (p : ByteArray) (e : Ending) (w' : World) : Prop :=
  (syE D p ≠ 0 ∧ e = .returned (.tuple #[.string ⟨#[]⟩, .int .i64 (syE D p)]) ∧ Kept [] w w') ∨ (syE D p = 0 ∧ ∃ (xb num : Nat) (now sure : ByteArray) (links : Int), pv D p = some ⟨xb, 0, none⟩ ∧ FileAt w xb num now sure links ∧ e = .returned (.tuple #[.string now, .int .i64 0]) ∧ Kept [] w w')
theorem read_no {w w' : World} {D : DataW Value} {p : ByteArray} {E : Int} (h : syE D p = E) (h0 : E ≠ 0) (hk : Kept [] w w') : ReadTo w D p (.returned (.tuple #[.string ⟨#[]⟩, .int .i64 E])) w' := by
  subst h
  exact .inl ⟨h0, rfl, hk⟩
set_option maxHeartbeats 800000 in
set_option maxRecDepth 100000 in
theorem read_gen (hV : View pl A B0 w fb nv sv uv done came used room steps N k D1 D2 D3 xs) (hm : MaxAt w) (p : ByteArray) (hp : p.size ≤ 140737488355328) (hP : ∀ q, PtrOK A w fb (pv D1 q)) :
    Calls Tryz.prog 32 #[.pointer (some ⟨fb, 0, none⟩), .string p] w fun e w' => ReadTo w D1 p e w' := by
  obtain ⟨W, hW⟩ : ∃ W, w.alloc (.cells #[.string p] 9) = W := ⟨_, rfl⟩
  have hkW : Kept [] w W := by rw [← hW]; exact Kept.alloc _ _
  have hrow : W.heap[w.heap.size]? = some (.cells #[.string p] 9 (0, 0)) := by rw [← hW]; exact alloc_at rfl
  have hf := hkW.fs hV.fs (by simp)
  have HH := hideIt (hindered_one hf (hkW.max hm (by simp)) p hp w.heap.size 9 hrow)
  have HF : Hid (∀ X, Below W.heap.size W X → Kept [] w X) := hideIt (fun X hX => (hkW.trans (Kept.of_below hX)).sub (by simp))
  cases hpath : pathL p.data.toList with
  | false =>
    have he : errPath p = 30 := by rw [errPath, if_neg (by rw [hpath]; simp)]
    rw [he] at HH
    have HE : Hid (syE D1 p = 30) := hideIt (by rw [syE, if_neg (by rw [hpath]; simp)])
    clear hV hm hrow hf hkW he hP
    go_enter Tryz.func32, Tryz.ntmps32
    go_wp2_with (first | (go_at_call 54; refine HH.out.mono ?_; rintro e w1 ⟨rfl, hb1⟩))
    go_ret2
    exact read_no HE.out (by decide) (HF.out _ hb1)
  | true =>
    have he : errPath p = 0 := by rw [errPath, if_pos hpath]
    rw [he] at HH
    have hps := path_size p hpath
    obtain ⟨z, hz⟩ : ∃ z, Maps.has D1 (key p) = z := ⟨_, rfl⟩
    obtain ⟨v, hv⟩ : ∃ v, pv D1 p = v := ⟨_, rfl⟩
    have HFI := hideIt (fun X hX => hV.file X hX p (by omega))
    rw [hz, hv] at HFI
    have hPp := hP p
    rw [hv] at hPp
    have HE : Hid (syE D1 p = if z then (if v.isSome then 0 else 31) else 2) := hideIt (by rw [syE, if_pos hpath, hz, hv])
    have HVV := hideIt hv
    clear hV hm hrow hf hkW he hz hv hpath hP
    cases z with
    | false =>
      go_enter Tryz.func32, Tryz.ntmps32
      go_wp2_with (first | (go_at_call 54; refine HH.out.mono ?_; rintro e w1 ⟨rfl, hb1⟩; have HK1 := hideIt (HF.out w1 hb1)) | (go_at_call 55; refine (HFI.out _ HK1.out).mono ?_; rintro e wx ⟨rfl, hwx⟩; obtain rfl := hwx.symm; simp only [fileR]))
      go_ret2
      exact read_no (E := 2) HE.out (by decide) HK1.out
    | true =>
      rcases hPp with rfl | ⟨xb, rfl, hAx, num, now, sure, links, hFx, hfx, hnum, hns, hss⟩
      · go_enter Tryz.func32, Tryz.ntmps32
        go_wp2_with (first | (go_at_call 54; refine HH.out.mono ?_; rintro e w1 ⟨rfl, hb1⟩; have HK1 := hideIt (HF.out w1 hb1)) | (go_at_call 55; refine (HFI.out _ HK1.out).mono ?_; rintro e wx ⟨rfl, hwx⟩; obtain rfl := hwx.symm; simp only [fileR]))
        go_ret2
        exact read_no (E := 31) HE.out (by decide) HK1.out
      · have HX : Hid (∀ X, Kept [] w X → X.cell? ⟨xb, 1, none⟩ = some (.string now)) := hideIt (fun X hX => fl1 (hX.fs hFx (by simp)))
        have HFX := hideIt hFx
        clear hFx
        go_enter Tryz.func32, Tryz.ntmps32
        go_wp2_with (first | (go_at_call 54; refine HH.out.mono ?_; rintro e w1 ⟨rfl, hb1⟩; have HK1 := hideIt (HF.out w1 hb1); have x1 := HX.out w1 HK1.out) | (go_at_call 55; refine (HFI.out _ HK1.out).mono ?_; rintro e wx ⟨rfl, hwx⟩; obtain rfl := hwx.symm; simp only [fileR]))
        go_ret2
        exact .inr ⟨HE.out, xb, num, now, sure, links, HVV.out, HFX.out, rfl, HK1.out⟩
end
end Go.Proofs.YtknmmlfdlfioiaaGreatDoor.Vc
namespace Go.Proofs.YtknmmlfdlfioiaaGreatDoor.Vc
open Go.RowKit Go.Shelf Go.Maps
variable {B0 : Nat} {A : Nat → Prop} {pl : Value}
section
variable {w : World} {fb : Nat} {nv sv uv done : Value} {came : Nat} {used : Int} {room steps N k : Nat} {D1 D2 D3 : DataW Value} {xs : List Value}
/-- Is there no room for so many bytes more? -/
def Full (used : Int) (room : Nat) (g : Int) : Prop := (room : Int) - used < g ∧ 0 < g
/-- Why nothing is written, room aside. -/
def wrN (D : DataW Value) (p : ByteArray) : Int := if pathL p.data.toList then (if folderB D (dirOf p) (pv D (dirOf p)) then (if folderB D p (pv D p) then 31 else 0) else 2) else 30
/-- A file came. -/
def WriteNew (pl : Value) (A : Nat → Prop) (B0 : Nat) (w : World) (fb : Nat) (came : Nat) (used : Int) (room steps N k : Nat) (D1 D2 D3 : DataW Value) (xs : List Value) (p s : ByteArray) (e : Ending) (w' : World) : Prop :=
  e = .returned (.int .i64 0) ∧ pathL p.data.toList = true ∧ pv D1 p = none ∧ ∃ b1 b2 b3 n1 n2 n3 done' xb, n1 ≤ N + 1 ∧ n2 ≤ N ∧ n3 ≤ N + 1 ∧ w.heap.size ≤ xb ∧ FileAt w' xb came s ⟨#[]⟩ 1 ∧ fb ≠ xb ∧
    Sg pl A B0 w' fb b1 b2 b3 done' (came + 1) (used + (s.size : Int)) room (steps + 1) n1 n2 n3 (k + 1) (comesD D1 p (.pointer (some ⟨xb, 0, none⟩))) D2 (LayTo D3 came xb s ⟨#[]⟩) (xs ++ [.int .i64 0, .string p, .string ⟨#[]⟩, .pointer (some ⟨xb, 0, none⟩)]) ∧ ∀ xo, (∀ x, xo x → x < w.heap.size) → Frm A fb xo w w'
/-- A file has other bytes. -/
def WriteOld (pl : Value) (A : Nat → Prop) (B0 : Nat) (w : World) (fb : Nat) (came : Nat) (used : Int) (room steps N k : Nat) (D1 D2 D3 : DataW Value) (xs : List Value) (p s : ByteArray) (e : Ending) (w' : World) : Prop :=
  e = .returned (.int .i64 0) ∧ pathL p.data.toList = true ∧ ∃ (b1 b2 b3 n1 n2 n3 : Nat) (done' : Value) (xb num : Nat) (now sure : ByteArray) (links : Int) (u : Int), n1 ≤ N ∧ n2 ≤ N ∧ n3 ≤ N + 1 ∧ u = used + ((s.size : Int) - (now.size : Int)) ∧ pv D1 p = some ⟨xb, 0, none⟩ ∧ FileAt w xb num now sure links ∧ FileAt w' xb num s sure links ∧
    Sg pl A B0 w' fb b1 b2 b3 done' came u room (steps + 1) n1 n2 n3 k D1 D2 (LayTo D3 num xb s sure) xs ∧ ∀ xo, ¬ xo xb → Frm A fb xo w w'
theorem Sg.setUsed {w : World} {b1 b2 b3 n1 n2 n3 : Nat} (h : Sg pl A B0 w fb b1 b2 b3 done came used room steps n1 n2 n3 k D1 D2 D3 xs) (u : Int) : Sg pl A B0 (w.setCell ⟨fb, 5, none⟩ (.int .i64 u)) fb b1 b2 b3 done came u room steps n1 n2 n3 k D1 D2 D3 xs := by
  refine h.setFs 5 _ _ _ ?_
  unfold FsAt
  rw [heap_setCell_same w fb 5 _ 54 _ h.fs]
  simp [fsv]
theorem Sg.setCame {w : World} {b1 b2 b3 n1 n2 n3 : Nat} (h : Sg pl A B0 w fb b1 b2 b3 done came used room steps n1 n2 n3 k D1 D2 D3 xs) : Sg pl A B0 (w.setCell ⟨fb, 4, none⟩ (.int .i64 ((came : Int) + 1))) fb b1 b2 b3 done (came + 1) used room steps n1 n2 n3 k D1 D2 D3 xs := by
  refine h.setFs 4 _ _ _ ?_
  unfold FsAt
  rw [heap_setCell_same w fb 4 _ 54 _ h.fs]
  simp [fsv]
/-- Behind a step: a file's block is laid, and counted; the name comes. -/
theorem come_sg {w2 : World} {b1 b2 b3 n1 n2 n3 : Nat} (h : Sg pl A B0 w2 fb b1 b2 b3 done came used room steps n1 n2 n3 k D1 D2 D3 xs) (hp1 : Ptrs D1) (hn : n1 < 1000000) (hk : k < 1000000) (p : ByteArray) (hp : p.size ≤ 1000) (X : World) (hX : Below (boxed w2 fb came).heap.size (boxed w2 fb came) X) :
    Calls Tryz.prog 65 #[.pointer (some ⟨fb, 0, none⟩), .agg #[.int .i64 0, .string p, .string ⟨#[]⟩, .pointer (some ⟨w2.heap.size, 0, none⟩)]] X fun e w' => e = .returned (.tuple #[]) ∧ (∃ done', Sg pl A B0 w' fb b1 b2 b3 done' (came + 1) used room steps (n1 + 1) n2 n3 (k + 1) (comesD D1 p (.pointer (some ⟨w2.heap.size, 0, none⟩))) D2 D3 (xs ++ [.int .i64 0, .string p, .string ⟨#[]⟩, .pointer (some ⟨w2.heap.size, 0, none⟩)])) ∧
      FileAt w' w2.heap.size came ⟨#[]⟩ ⟨#[]⟩ 1 ∧ ∀ xo, Frm A fb xo w2 w' := by
  have hkX : Kept [] (boxed w2 fb came) X := Kept.of_below hX
  have hkA : Kept [] (w2.setCell ⟨fb, 4, none⟩ (.int .i64 ((came : Int) + 1))) (boxed w2 fb came) := Kept.alloc _ _
  have hS : Sg pl A B0 X fb b1 b2 b3 done (came + 1) used room steps n1 n2 n3 k D1 D2 D3 xs := (h.setCame.keep0 hkA).keep0 hkX
  have hsz : (w2.setCell ⟨fb, 4, none⟩ (.int .i64 ((came : Int) + 1))).heap.size = w2.heap.size := by simp [World.setCell]
  have hF : FileAt X w2.heap.size came ⟨#[]⟩ ⟨#[]⟩ 1 := hkX.fs (alloc_at hsz) (by simp)
  refine (enact_sg hS hk 0 p ⟨#[]⟩ (some ⟨w2.heap.size, 0, none⟩) (fun D' => D' = comesD D1 p (.pointer (some ⟨w2.heap.size, 0, none⟩))) (n1 + 1) (fun Y hY => (do_comes_gen (hY.map hS.m1 (by simp)) (by omega) hp1 p ⟨#[]⟩ hp _).mono fun _ _ ⟨a1, a2, a3⟩ => ⟨a1, _, rfl, a2, a3⟩)).mono fun e w' ⟨h1, D', done', h2, h3, h4⟩ => ⟨h1, ⟨done', by rw [← h2]; exact h3⟩, ?_, fun xo => ?_⟩
  · refine h4.fs hF ?_
    have e1 := file_ne_map hF hS.m1
    have e4 := row_ne_cells hS.row hF (by decide)
    have e5 := block_lt h.fs
    simp only [List.mem_cons, not_or]
    exact ⟨e1, by omega, e4⟩
  · exact (((Frm.fs1 (Kept.set fb 4 _) h.fs h.a0).trans (Frm.kept0 hkA)).trans (Frm.kept0 hkX)).trans (Frm.of_kept h4 (fun b hb => hS.inner b (by simp at hb ⊢; rcases hb with hb | hb | hb <;> simp [hb])))
set_option maxHeartbeats 3200000 in
set_option maxRecDepth 100000 in
theorem write_new (hV : View pl A B0 w fb nv sv uv done came used room steps N k D1 D2 D3 xs) (hm : MaxAt w) (p s : ByteArray) (hp : p.size ≤ 140737488355328) (hss : s.size ≤ 100000000) (hN : N < 900000) (hk : k < 900000) (hs : steps < 900000) (hc : came < 900000) (hu1 : -1000000000000000 ≤ used) (hu2 : used ≤ 1000000000000000) (hr : room ≤ 1000000000000000)
    (hpath : pathL p.data.toList = true) (hy : folderB D1 (dirOf p) (pv D1 (dirOf p)) = true) (hx : folderB D1 p (pv D1 p) = false) (hv : pv D1 p = none) :
    Calls Tryz.prog 40 #[.pointer (some ⟨fb, 0, none⟩), .string p, .string s] w fun e w' => (Full used room (s.size : Int) ∧ Refd 33 w e w') ∨ (¬ Full used room (s.size : Int) ∧ WriteNew pl A B0 w fb came used room steps N k D1 D2 D3 xs p s e w') := by
  obtain ⟨W, hW⟩ : ∃ W, w.alloc (.cells #[.string p] 9) = W := ⟨_, rfl⟩
  have hkW : Kept [] w W := by rw [← hW]; exact Kept.alloc _ _
  have hrow : W.heap[w.heap.size]? = some (.cells #[.string p] 9 (0, 0)) := by rw [← hW]; exact alloc_at rfl
  have hf := hkW.fs hV.fs (by simp)
  have HH := hideIt (hindered_one hf (hkW.max hm (by simp)) p hp w.heap.size 9 hrow)
  have he : errPath p = 0 := by rw [errPath, if_pos hpath]
  rw [he] at HH
  have HF : Hid (∀ X, Below W.heap.size W X → Kept [] w X ∧ FsAt X fb nv sv done uv came used room steps false pl) := hideIt (fun X hX => ⟨(hkW.trans (Kept.of_below hX)).sub (by simp), (Kept.of_below hX).fs hf (by simp)⟩)
  have hps := path_size p hpath
  have hds := dir_size p (by omega)
  have HD := hideIt (fun X => folderOf_any p X hp)
  have HV := hideIt hV
  have HPA := hideIt hpath
  have HPV := hideIt hv
  obtain ⟨d, hd⟩ : ∃ d, dirOf p = d := ⟨_, rfl⟩
  have HFO := hideIt (fun X hX => hV.fold X hX d (by rw [← hd]; exact hds))
  have HFP := hideIt (fun X hX => hV.fold X hX p (by omega))
  rw [hd] at HD
  rw [hx] at HFP
  have hy' := hy
  rw [hd] at hy'
  rw [hy'] at HFO
  have HL := hideIt (fun X hX => (hV.look X hX p (by omega)).2)
  rw [hv] at HL
  obtain ⟨R, hR⟩ : ∃ R : Int, (room : Int) - used = R := ⟨_, rfl⟩
  have r1 : IntKind.i64.wrap R = R := by rw [IntKind.wrap_i64]; omega
  have hwc : IntKind.i64.wrap ((came : Int) + 1) = (came : Int) + 1 := by rw [IntKind.wrap_i64]; omega
  obtain ⟨u, hu⟩ : ∃ u : Int, used + (s.size : Int) = u := ⟨_, rfl⟩
  have hwu : IntKind.i64.wrap u = u := by rw [IntKind.wrap_i64]; omega
  have hgc : (decide ((0 : Int) < (s.size : Int)) = false ∧ decide (0 < s.size) = false) ∨ (decide ((0 : Int) < (s.size : Int)) = true ∧ (0 : Int) < (s.size : Int) ∧ decide (0 < s.size) = true ∧ 0 < s.size) := by
    by_cases hz : 0 < s.size
    · exact .inr ⟨decide_eq_true (by omega), by omega, decide_eq_true hz, hz⟩
    · exact .inl ⟨decide_eq_false (by omega), decide_eq_false hz⟩
  have HT := hideIt (fun X hX => HV.out.step X hX hs)
  have HU := hideIt hu
  clear hV hm hrow hf hkW he hd hy hy' hx hv hpath
  by_cases hbig : R < (s.size : Int) ∧ 0 < s.size
  · obtain ⟨hb1', hb2'⟩ := hbig
    have HBG : Hid (Full used room (s.size : Int)) := hideIt ⟨by rw [hR]; exact hb1', by omega⟩
    have g1 : decide ((0 : Int) < (s.size : Int)) = true := decide_eq_true (by omega)
    have g2 : (0 : Int) < (s.size : Int) := by omega
    have g3 : decide (R < (s.size : Int)) = true := decide_eq_true hb1'
    clear hgc
    go_enter Tryz.func40, Tryz.ntmps40
    go_wp2_with (first | (go_at_call 54; refine HH.out.mono ?_; rintro e w1 ⟨rfl, hb1⟩))
    obtain ⟨hk1, hf1⟩ := HF.out w1 hb1
    have d0 := fs0 hf1
    have d5 := fs5 hf1
    have d6 := fs6 hf1
    have HK1 := hideIt hk1
    have hl := HL.out w1.drew hk1.drew
    clear hk1 hf1
    go_region_held3 (fun X => X.cell? ⟨fb, 0, none⟩ = some nv) (first | exact d0 | assumption) (first | (go_at_call 47; refine (HD.out _).mono ?_; rintro e wx ⟨rfl, rfl⟩) | (go_at_call 46; refine (HFO.out _ (by exact HK1.out.drew)).mono ?_; rintro e wx ⟨rfl, rfl⟩))
    go_wp2_with (first | (go_at_call 46; refine (HFP.out _ (by exact HK1.out.drew)).mono ?_; rintro e wx ⟨rfl, hwx⟩; obtain rfl := hwx.symm))
    go_quiet (fail)
    go_wp2
    go_ret
    exact .inl ⟨HBG.out, rfl, by first | exact HK1.out.drewN _ | exact HK1.out.drew.drewN _⟩
  · have HBG : Hid (¬ Full used room (s.size : Int)) := hideIt (fun h => hbig ⟨by rw [← hR]; exact h.1, by have := h.2; omega⟩)
    rcases hgc with ⟨g1, g2⟩ | ⟨g1, g2, g3, g4⟩
    · clear hbig
      go_enter Tryz.func40, Tryz.ntmps40
      go_wp2_with (first | (go_at_call 54; refine HH.out.mono ?_; rintro e w1 ⟨rfl, hb1⟩))
      obtain ⟨hk1, hf1⟩ := HF.out w1 hb1
      have d0 := fs0 hf1
      have d5 := fs5 hf1
      have d6 := fs6 hf1
      have HK1 := hideIt hk1
      have hl := HL.out w1.drew hk1.drew
      have HT1 : Hid (∀ j, Calls Tryz.prog 64 #[.pointer (some ⟨fb, 0, none⟩)] (w1.drewN j) fun e w2 => e = .returned (.int .i64 0) ∧ ∃ b1 b2 b3 n1 n2 n3, n1 ≤ N ∧ n2 ≤ N ∧ n3 ≤ N ∧ Sg pl A B0 w2 fb b1 b2 b3 done came used room (steps + 1) n1 n2 n3 k D1 D2 D3 xs ∧ ∀ xo, Frm A fb xo w w2) := hideIt (fun j => by
        have hj : Kept [] w (w1.drewN j) := HK1.out.drewN j
        exact (HT.out _ hj).mono fun _ _ ⟨a1, b1, b2, b3, n1, n2, n3, q1, q2, q3, _, _, _, hS, hk2⟩ => ⟨a1, b1, b2, b3, n1, n2, n3, q1, q2, q3, hS, fun xo => (Frm.kept0 hj).trans (Frm.fs1 hk2 (hj.fs HV.out.fs (by simp)) HV.out.a0)⟩)
      clear hk1 hf1
      go_region_held3 (fun X => X.cell? ⟨fb, 0, none⟩ = some nv) (first | exact d0 | assumption) (first | (go_at_call 47; refine (HD.out _).mono ?_; rintro e wx ⟨rfl, rfl⟩) | (go_at_call 46; refine (HFO.out _ (by exact HK1.out.drew)).mono ?_; rintro e wx ⟨rfl, rfl⟩))
      go_wp2_with (first | (go_at_call 46; refine (HFP.out _ (by exact HK1.out.drew)).mono ?_; rintro e wx ⟨rfl, hwx⟩; obtain rfl := hwx.symm))
      go_quiet (fail)
      go_wp2_with (first | (go_at_call 64; refine (HT1.out _).mono ?_; rintro e w2 ⟨rfl, b1, b2, b3, n1, n2, n3, q1, q2, q3, hS, hr2⟩; have c4 := fs4 hS.fs; have f4 := thawAt hS.fs 4; have l2 := block_lt hS.fs; have HE := hideIt (come_sg hS HV.out.ptrs (by omega) (by omega) p (by omega)); have HS := hideIt hS; have HR2 := hideIt hr2; clear hS hr2) |
        (go_at_call 66; refine (clone_any p _ hp).mono ?_; rintro e w3 ⟨rfl, hb3⟩) |
        (go_at_call 65; refine (HE.out _ hb3).mono ?_; rintro e w4 ⟨rfl, ⟨done', hS4⟩, hF4, hr4⟩; have c5 := fs5 hS4.fs; have f5 := thawAt hS4.fs 5; have x2 := fl2 hF4; have l4 := block_lt hS4.fs; have l5 := block_lt hF4))
      have hlt2 := block_lt HS.out.fs
      have hF6 : FileAt (w4.setCell ⟨fb, 5, none⟩ (.int .i64 u)) w2.heap.size came ⟨#[]⟩ ⟨#[]⟩ 1 := (Kept.set fb 5 _).fs hF4 (by simp; omega)
      have x6 := fl2 hF6
      have HR6 := hideIt (fun xo => ((HR2.out xo).trans (hr4 xo)).trans (Frm.fs1 (Kept.set fb 5 (.int .i64 u)) hS4.fs hS4.a0))
      have HLA : Hid (∀ X, Kept [] (w4.setCell ⟨fb, 5, none⟩ (.int .i64 u)) X → Calls Tryz.prog 67 #[.pointer (some ⟨fb, 0, none⟩), .pointer (some ⟨w2.heap.size, 0, none⟩), .string s, .string ⟨#[]⟩] X fun e w' => e = .returned (.tuple #[]) ∧
          (∃ n3', n3' ≤ n3 + 1 ∧ Sg pl A B0 w' fb b1 b2 b3 done' (came + 1) u room (steps + 1) (n1 + 1) n2 n3' (k + 1) (comesD D1 p (.pointer (some ⟨w2.heap.size, 0, none⟩))) D2 (LayTo D3 came w2.heap.size s ⟨#[]⟩) (xs ++ [.int .i64 0, .string p, .string ⟨#[]⟩, .pointer (some ⟨w2.heap.size, 0, none⟩)])) ∧ FileAt w' w2.heap.size came s ⟨#[]⟩ 1 ∧ ∀ xo, ¬ xo w2.heap.size → Frm A fb xo w w') :=
        hideIt (fun X hX => (lay_sg ((hS4.setUsed u).keep0 hX) (hX.fs hF6 (by simp)) (by omega) (by omega) (by omega) s ⟨#[]⟩ hss (by decide) (HS.out.aw _ (Nat.le_refl _))).mono fun e w' ⟨a1, a2, a3, a4⟩ => ⟨a1, a2, a3, fun xo hx => ((HR6.out xo).trans (Frm.kept0 hX)).trans (a4 xo hx)⟩)
      have HX6 := hideIt (fun (X : World) (hX : Kept [] (w4.setCell ⟨fb, 5, none⟩ (.int .i64 u)) X) => fl2 (hX.fs hF6 (by simp)))
      clear hS4 hF4 hr4 hF6
      go_region_held3 (fun X => X.cell? ⟨w2.heap.size, 2, none⟩ = some (.string ⟨#[]⟩)) (first | exact x6 | exact HX6.out _ (kept_drew (by assumption)) | exact fl2 (by assumption) | assumption) (first | (go_at_call 66; refine (clone_any s _ (by omega)).mono ?_; rintro e w5 ⟨rfl, hb5⟩) | (go_at_call 67; refine (HLA.out _ (kept_drew hb5)).mono ?_; rintro e w6 ⟨rfl, ⟨n3', q4, hS7⟩, hF7, hr7⟩))
      go_wp2
      go_ret
      have hz2 := (HR2.out NoX).size
      refine .inr ⟨HBG.out, rfl, HPA.out, HPV.out, b1, b2, b3, n1 + 1, n2, n3', done', w2.heap.size, by omega, q2, by omega, hz2, hF7, by omega, by rw [HU.out]; exact hS7, fun xo hx => hr7 xo (fun e => ?_)⟩
      have := hx _ e
      omega
    · have g5 : decide (R < (s.size : Int)) = false := decide_eq_false (fun h => hbig ⟨h, g4⟩)
      have g6 : ¬ R < (s.size : Int) := fun h => hbig ⟨h, g4⟩
      clear hbig
      go_enter Tryz.func40, Tryz.ntmps40
      go_wp2_with (first | (go_at_call 54; refine HH.out.mono ?_; rintro e w1 ⟨rfl, hb1⟩))
      obtain ⟨hk1, hf1⟩ := HF.out w1 hb1
      have d0 := fs0 hf1
      have d5 := fs5 hf1
      have d6 := fs6 hf1
      have HK1 := hideIt hk1
      have hl := HL.out w1.drew hk1.drew
      have HT1 : Hid (∀ j, Calls Tryz.prog 64 #[.pointer (some ⟨fb, 0, none⟩)] (w1.drewN j) fun e w2 => e = .returned (.int .i64 0) ∧ ∃ b1 b2 b3 n1 n2 n3, n1 ≤ N ∧ n2 ≤ N ∧ n3 ≤ N ∧ Sg pl A B0 w2 fb b1 b2 b3 done came used room (steps + 1) n1 n2 n3 k D1 D2 D3 xs ∧ ∀ xo, Frm A fb xo w w2) := hideIt (fun j => by
        have hj : Kept [] w (w1.drewN j) := HK1.out.drewN j
        exact (HT.out _ hj).mono fun _ _ ⟨a1, b1, b2, b3, n1, n2, n3, q1, q2, q3, _, _, _, hS, hk2⟩ => ⟨a1, b1, b2, b3, n1, n2, n3, q1, q2, q3, hS, fun xo => (Frm.kept0 hj).trans (Frm.fs1 hk2 (hj.fs HV.out.fs (by simp)) HV.out.a0)⟩)
      clear hk1 hf1
      go_region_held3 (fun X => X.cell? ⟨fb, 0, none⟩ = some nv) (first | exact d0 | assumption) (first | (go_at_call 47; refine (HD.out _).mono ?_; rintro e wx ⟨rfl, rfl⟩) | (go_at_call 46; refine (HFO.out _ (by exact HK1.out.drew)).mono ?_; rintro e wx ⟨rfl, rfl⟩))
      go_wp2_with (first | (go_at_call 46; refine (HFP.out _ (by exact HK1.out.drew)).mono ?_; rintro e wx ⟨rfl, hwx⟩; obtain rfl := hwx.symm))
      go_quiet (fail)
      go_wp2_with (first | (go_at_call 64; refine (HT1.out _).mono ?_; rintro e w2 ⟨rfl, b1, b2, b3, n1, n2, n3, q1, q2, q3, hS, hr2⟩; have c4 := fs4 hS.fs; have f4 := thawAt hS.fs 4; have l2 := block_lt hS.fs; have HE := hideIt (come_sg hS HV.out.ptrs (by omega) (by omega) p (by omega)); have HS := hideIt hS; have HR2 := hideIt hr2; clear hS hr2) |
        (go_at_call 66; refine (clone_any p _ hp).mono ?_; rintro e w3 ⟨rfl, hb3⟩) |
        (go_at_call 65; refine (HE.out _ hb3).mono ?_; rintro e w4 ⟨rfl, ⟨done', hS4⟩, hF4, hr4⟩; have c5 := fs5 hS4.fs; have f5 := thawAt hS4.fs 5; have x2 := fl2 hF4; have l4 := block_lt hS4.fs; have l5 := block_lt hF4))
      have hlt2 := block_lt HS.out.fs
      have hF6 : FileAt (w4.setCell ⟨fb, 5, none⟩ (.int .i64 u)) w2.heap.size came ⟨#[]⟩ ⟨#[]⟩ 1 := (Kept.set fb 5 _).fs hF4 (by simp; omega)
      have x6 := fl2 hF6
      have HR6 := hideIt (fun xo => ((HR2.out xo).trans (hr4 xo)).trans (Frm.fs1 (Kept.set fb 5 (.int .i64 u)) hS4.fs hS4.a0))
      have HLA : Hid (∀ X, Kept [] (w4.setCell ⟨fb, 5, none⟩ (.int .i64 u)) X → Calls Tryz.prog 67 #[.pointer (some ⟨fb, 0, none⟩), .pointer (some ⟨w2.heap.size, 0, none⟩), .string s, .string ⟨#[]⟩] X fun e w' => e = .returned (.tuple #[]) ∧
          (∃ n3', n3' ≤ n3 + 1 ∧ Sg pl A B0 w' fb b1 b2 b3 done' (came + 1) u room (steps + 1) (n1 + 1) n2 n3' (k + 1) (comesD D1 p (.pointer (some ⟨w2.heap.size, 0, none⟩))) D2 (LayTo D3 came w2.heap.size s ⟨#[]⟩) (xs ++ [.int .i64 0, .string p, .string ⟨#[]⟩, .pointer (some ⟨w2.heap.size, 0, none⟩)])) ∧ FileAt w' w2.heap.size came s ⟨#[]⟩ 1 ∧ ∀ xo, ¬ xo w2.heap.size → Frm A fb xo w w') :=
        hideIt (fun X hX => (lay_sg ((hS4.setUsed u).keep0 hX) (hX.fs hF6 (by simp)) (by omega) (by omega) (by omega) s ⟨#[]⟩ hss (by decide) (HS.out.aw _ (Nat.le_refl _))).mono fun e w' ⟨a1, a2, a3, a4⟩ => ⟨a1, a2, a3, fun xo hx => ((HR6.out xo).trans (Frm.kept0 hX)).trans (a4 xo hx)⟩)
      have HX6 := hideIt (fun (X : World) (hX : Kept [] (w4.setCell ⟨fb, 5, none⟩ (.int .i64 u)) X) => fl2 (hX.fs hF6 (by simp)))
      clear hS4 hF4 hr4 hF6
      go_region_held3 (fun X => X.cell? ⟨w2.heap.size, 2, none⟩ = some (.string ⟨#[]⟩)) (first | exact x6 | exact HX6.out _ (kept_drew (by assumption)) | exact fl2 (by assumption) | assumption) (first | (go_at_call 66; refine (clone_any s _ (by omega)).mono ?_; rintro e w5 ⟨rfl, hb5⟩) | (go_at_call 67; refine (HLA.out _ (kept_drew hb5)).mono ?_; rintro e w6 ⟨rfl, ⟨n3', q4, hS7⟩, hF7, hr7⟩))
      go_wp2
      go_ret
      have hz2 := (HR2.out NoX).size
      refine .inr ⟨HBG.out, rfl, HPA.out, HPV.out, b1, b2, b3, n1 + 1, n2, n3', done', w2.heap.size, by omega, q2, by omega, hz2, hF7, by omega, by rw [HU.out]; exact hS7, fun xo hx => hr7 xo (fun e => ?_)⟩
      have := hx _ e
      omega
end
end Go.Proofs.YtknmmlfdlfioiaaGreatDoor.Vc
namespace Go.Proofs.YtknmmlfdlfioiaaGreatDoor.Vc
open Go.RowKit Go.Shelf Go.Maps
variable {B0 : Nat} {A : Nat → Prop} {pl : Value}
section
variable {w : World} {fb : Nat} {nv sv uv done : Value} {came : Nat} {used : Int} {room steps N k : Nat} {D1 D2 D3 : DataW Value} {xs : List Value}
set_option maxHeartbeats 3200000 in
set_option maxRecDepth 100000 in
theorem write_old (hV : View pl A B0 w fb nv sv uv done came used room steps N k D1 D2 D3 xs) (hm : MaxAt w) (p s : ByteArray) (hp : p.size ≤ 140737488355328) (hss : s.size ≤ 100000000) (hN : N < 900000) (hs : steps < 900000) (hu1 : -1000000000000000 ≤ used) (hu2 : used ≤ 1000000000000000) (hr : room ≤ 1000000000000000)
    (hpath : pathL p.data.toList = true) (hy : folderB D1 (dirOf p) (pv D1 (dirOf p)) = true) (hx : folderB D1 p (pv D1 p) = false) (xb : Nat) (hv : pv D1 p = some ⟨xb, 0, none⟩) {num : Nat} {now sure : ByteArray} {links : Int} (hFx : FileAt w xb num now sure links) (hfx : fb ≠ xb) (hnum : num < 1000000) (hns : now.size ≤ 100000000) (hsu : sure.size ≤ 100000000) (hAx : A xb) :
    Calls Tryz.prog 40 #[.pointer (some ⟨fb, 0, none⟩), .string p, .string s] w fun e w' => (Full used room ((s.size : Int) - (now.size : Int)) ∧ Refd 33 w e w') ∨ (¬ Full used room ((s.size : Int) - (now.size : Int)) ∧ WriteOld pl A B0 w fb came used room steps N k D1 D2 D3 xs p s e w') := by
  obtain ⟨W, hW⟩ : ∃ W, w.alloc (.cells #[.string p] 9) = W := ⟨_, rfl⟩
  have hkW : Kept [] w W := by rw [← hW]; exact Kept.alloc _ _
  have hrow : W.heap[w.heap.size]? = some (.cells #[.string p] 9 (0, 0)) := by rw [← hW]; exact alloc_at rfl
  have hf := hkW.fs hV.fs (by simp)
  have HH := hideIt (hindered_one hf (hkW.max hm (by simp)) p hp w.heap.size 9 hrow)
  have he : errPath p = 0 := by rw [errPath, if_pos hpath]
  rw [he] at HH
  have HF : Hid (∀ X, Below W.heap.size W X → Kept [] w X ∧ FsAt X fb nv sv done uv came used room steps false pl) := hideIt (fun X hX => ⟨(hkW.trans (Kept.of_below hX)).sub (by simp), (Kept.of_below hX).fs hf (by simp)⟩)
  have hps := path_size p hpath
  have hds := dir_size p (by omega)
  have HD := hideIt (fun X => folderOf_any p X hp)
  have HV := hideIt hV
  have HPA := hideIt hpath
  have HPV := hideIt hv
  obtain ⟨d, hd⟩ : ∃ d, dirOf p = d := ⟨_, rfl⟩
  have HFO := hideIt (fun X hX => hV.fold X hX d (by rw [← hd]; exact hds))
  have HFP := hideIt (fun X hX => hV.fold X hX p (by omega))
  rw [hd] at HD
  rw [hx] at HFP
  have hy' := hy
  rw [hd] at hy'
  rw [hy'] at HFO
  have HL := hideIt (fun X hX => (hV.look X hX p (by omega)).2)
  rw [hv] at HL
  obtain ⟨G, hG⟩ : ∃ G : Int, (s.size : Int) - (now.size : Int) = G := ⟨_, rfl⟩
  obtain ⟨R, hR⟩ : ∃ R : Int, (room : Int) - used = R := ⟨_, rfl⟩
  have r1 : IntKind.i64.wrap R = R := by rw [IntKind.wrap_i64]; omega
  have gw : IntKind.i64.wrap G = G := by rw [IntKind.wrap_i64]; omega
  obtain ⟨u, hu⟩ : ∃ u : Int, used + G = u := ⟨_, rfl⟩
  have hwu : IntKind.i64.wrap u = u := by rw [IntKind.wrap_i64]; omega
  have hgc : (decide ((0 : Int) < G) = false ∧ ¬ (0 : Int) < G) ∨ (decide ((0 : Int) < G) = true ∧ (0 : Int) < G) := by
    by_cases hz : 0 < G
    · exact .inr ⟨decide_eq_true hz, hz⟩
    · exact .inl ⟨decide_eq_false hz, hz⟩
  have HT := hideIt (fun X hX => HV.out.step X hX hs)
  have HU : Hid (u = used + ((s.size : Int) - (now.size : Int))) := hideIt (by rw [← hu, hG])
  have HFX := hideIt hFx
  have HX1 : Hid (∀ X, Kept [] w X → X.cell? ⟨xb, 1, none⟩ = some (.string now)) := hideIt (fun X hX => fl1 (hX.fs HFX.out (by simp)))
  clear hV hm hrow hf hkW he hd hy hy' hx hv hpath hFx
  by_cases hbig : R < G ∧ 0 < G
  · obtain ⟨hb1', hb2'⟩ := hbig
    have HBG : Hid (Full used room ((s.size : Int) - (now.size : Int))) := hideIt (by rw [hG]; exact ⟨by rw [hR]; exact hb1', hb2'⟩)
    have g1 : decide ((0 : Int) < G) = true := decide_eq_true (by omega)
    have g3 : decide (R < G) = true := decide_eq_true hb1'
    clear hgc
    go_enter Tryz.func40, Tryz.ntmps40
    go_wp2_with (first | (go_at_call 54; refine HH.out.mono ?_; rintro e w1 ⟨rfl, hb1⟩))
    obtain ⟨hk1, hf1⟩ := HF.out w1 hb1
    have d0 := fs0 hf1
    have d5 := fs5 hf1
    have d6 := fs6 hf1
    have HK1 := hideIt hk1
    have hl := HL.out w1.drew hk1.drew
    have x1 := HX1.out w1 hk1
    clear hk1 hf1
    go_region_held3 (fun X => X.cell? ⟨fb, 0, none⟩ = some nv) (first | exact d0 | assumption) (first | (go_at_call 47; refine (HD.out _).mono ?_; rintro e wx ⟨rfl, rfl⟩) | (go_at_call 46; refine (HFO.out _ (by exact HK1.out.drew)).mono ?_; rintro e wx ⟨rfl, rfl⟩))
    go_wp2_with (first | (go_at_call 46; refine (HFP.out _ (by exact HK1.out.drew)).mono ?_; rintro e wx ⟨rfl, hwx⟩; obtain rfl := hwx.symm))
    go_quiet (fail)
    go_wp2
    go_ret
    exact .inl ⟨HBG.out, rfl, by first | exact HK1.out.drewN _ | exact HK1.out.drew.drewN _⟩
  · have HBG : Hid (¬ Full used room ((s.size : Int) - (now.size : Int))) := hideIt (by rw [hG]; exact fun h => hbig ⟨by rw [← hR]; exact h.1, h.2⟩)
    rcases hgc with ⟨g1, g2⟩ | ⟨g1, g2⟩
    · clear hbig
      go_enter Tryz.func40, Tryz.ntmps40
      go_wp2_with (first | (go_at_call 54; refine HH.out.mono ?_; rintro e w1 ⟨rfl, hb1⟩))
      obtain ⟨hk1, hf1⟩ := HF.out w1 hb1
      have d0 := fs0 hf1
      have d5 := fs5 hf1
      have d6 := fs6 hf1
      have HK1 := hideIt hk1
      have hl := HL.out w1.drew hk1.drew
      have x1 := HX1.out w1 hk1
      have HT1 : Hid (∀ j, Calls Tryz.prog 64 #[.pointer (some ⟨fb, 0, none⟩)] (w1.drewN j) fun e w2 => e = .returned (.int .i64 0) ∧ ∃ b1 b2 b3 n1 n2 n3, n1 ≤ N ∧ n2 ≤ N ∧ n3 ≤ N ∧ FileAt w2 xb num now sure links ∧ Sg pl A B0 w2 fb b1 b2 b3 done came used room (steps + 1) n1 n2 n3 k D1 D2 D3 xs ∧ ∀ xo, Frm A fb xo w w2) := hideIt (fun j => by
        have hj : Kept [] w (w1.drewN j) := HK1.out.drewN j
        exact (HT.out _ hj).mono fun _ _ ⟨a1, b1, b2, b3, n1, n2, n3, q1, q2, q3, _, _, _, hS, hk2⟩ => ⟨a1, b1, b2, b3, n1, n2, n3, q1, q2, q3, hk2.fs (hj.fs HFX.out (by simp)) (by simpa using fun e => hfx e.symm), hS, fun xo => (Frm.kept0 hj).trans (Frm.fs1 hk2 (hj.fs HV.out.fs (by simp)) HV.out.a0)⟩)
      clear hk1 hf1
      go_region_held3 (fun X => X.cell? ⟨fb, 0, none⟩ = some nv) (first | exact d0 | assumption) (first | (go_at_call 47; refine (HD.out _).mono ?_; rintro e wx ⟨rfl, rfl⟩) | (go_at_call 46; refine (HFO.out _ (by exact HK1.out.drew)).mono ?_; rintro e wx ⟨rfl, rfl⟩))
      go_wp2_with (first | (go_at_call 46; refine (HFP.out _ (by exact HK1.out.drew)).mono ?_; rintro e wx ⟨rfl, hwx⟩; obtain rfl := hwx.symm))
      go_quiet (fail)
      go_wp2_with (first | (go_at_call 64; refine (HT1.out _).mono ?_; rintro e w2 ⟨rfl, b1, b2, b3, n1, n2, n3, q1, q2, q3, hF2, hS, hr2⟩; have c5 := fs5 hS.fs; have f5 := thawAt hS.fs 5))
      have hF6 : FileAt (w2.setCell ⟨fb, 5, none⟩ (.int .i64 u)) xb num now sure links := (Kept.set fb 5 _).fs hF2 (by simpa using fun e => hfx e.symm)
      have x6 := fl2 hF6
      have HR6 := hideIt (fun xo => (hr2 xo).trans (Frm.fs1 (Kept.set fb 5 (.int .i64 u)) hS.fs hS.a0))
      have HLA : Hid (∀ X, Kept [] (w2.setCell ⟨fb, 5, none⟩ (.int .i64 u)) X → Calls Tryz.prog 67 #[.pointer (some ⟨fb, 0, none⟩), .pointer (some ⟨xb, 0, none⟩), .string s, .string sure] X fun e w' => e = .returned (.tuple #[]) ∧
          (∃ n3', n3' ≤ n3 + 1 ∧ Sg pl A B0 w' fb b1 b2 b3 done came u room (steps + 1) n1 n2 n3' k D1 D2 (LayTo D3 num xb s sure) xs) ∧ FileAt w' xb num s sure links ∧ ∀ xo, ¬ xo xb → Frm A fb xo w w') :=
        hideIt (fun X hX => (lay_sg ((hS.setUsed u).keep0 hX) (hX.fs hF6 (by simp)) hfx hnum (by omega) s sure hss hsu hAx).mono fun e w' ⟨a1, a2, a3, a4⟩ => ⟨a1, a2, a3, fun xo hx => ((HR6.out xo).trans (Frm.kept0 hX)).trans (a4 xo hx)⟩)
      have HX6 := hideIt (fun (X : World) (hX : Kept [] (w2.setCell ⟨fb, 5, none⟩ (.int .i64 u)) X) => fl2 (hX.fs hF6 (by simp)))
      clear hS hF2 hr2 hF6
      go_region_held3 (fun X => X.cell? ⟨xb, 2, none⟩ = some (.string sure)) (first | exact x6 | exact HX6.out _ (kept_drew (by assumption)) | exact fl2 (by assumption) | assumption) (first | (go_at_call 66; refine (clone_any s _ (by omega)).mono ?_; rintro e w5 ⟨rfl, hb5⟩) | (go_at_call 67; refine (HLA.out _ (kept_drew hb5)).mono ?_; rintro e w6 ⟨rfl, ⟨n3', q4, hS7⟩, hF7, hr7⟩))
      go_wp2
      go_ret
      exact .inr ⟨HBG.out, rfl, HPA.out, b1, b2, b3, n1, n2, n3', done, xb, num, now, sure, links, u, q1, q2, by omega, HU.out, HPV.out, HFX.out, hF7, hS7, hr7⟩
    · have g5 : decide (R < G) = false := decide_eq_false (fun h => hbig ⟨h, g2⟩)
      have g6 : ¬ R < G := fun h => hbig ⟨h, g2⟩
      clear hbig
      go_enter Tryz.func40, Tryz.ntmps40
      go_wp2_with (first | (go_at_call 54; refine HH.out.mono ?_; rintro e w1 ⟨rfl, hb1⟩))
      obtain ⟨hk1, hf1⟩ := HF.out w1 hb1
      have d0 := fs0 hf1
      have d5 := fs5 hf1
      have d6 := fs6 hf1
      have HK1 := hideIt hk1
      have hl := HL.out w1.drew hk1.drew
      have x1 := HX1.out w1 hk1
      have HT1 : Hid (∀ j, Calls Tryz.prog 64 #[.pointer (some ⟨fb, 0, none⟩)] (w1.drewN j) fun e w2 => e = .returned (.int .i64 0) ∧ ∃ b1 b2 b3 n1 n2 n3, n1 ≤ N ∧ n2 ≤ N ∧ n3 ≤ N ∧ FileAt w2 xb num now sure links ∧ Sg pl A B0 w2 fb b1 b2 b3 done came used room (steps + 1) n1 n2 n3 k D1 D2 D3 xs ∧ ∀ xo, Frm A fb xo w w2) := hideIt (fun j => by
        have hj : Kept [] w (w1.drewN j) := HK1.out.drewN j
        exact (HT.out _ hj).mono fun _ _ ⟨a1, b1, b2, b3, n1, n2, n3, q1, q2, q3, _, _, _, hS, hk2⟩ => ⟨a1, b1, b2, b3, n1, n2, n3, q1, q2, q3, hk2.fs (hj.fs HFX.out (by simp)) (by simpa using fun e => hfx e.symm), hS, fun xo => (Frm.kept0 hj).trans (Frm.fs1 hk2 (hj.fs HV.out.fs (by simp)) HV.out.a0)⟩)
      clear hk1 hf1
      go_region_held3 (fun X => X.cell? ⟨fb, 0, none⟩ = some nv) (first | exact d0 | assumption) (first | (go_at_call 47; refine (HD.out _).mono ?_; rintro e wx ⟨rfl, rfl⟩) | (go_at_call 46; refine (HFO.out _ (by exact HK1.out.drew)).mono ?_; rintro e wx ⟨rfl, rfl⟩))
      go_wp2_with (first | (go_at_call 46; refine (HFP.out _ (by exact HK1.out.drew)).mono ?_; rintro e wx ⟨rfl, hwx⟩; obtain rfl := hwx.symm))
      go_quiet (fail)
      go_wp2_with (first | (go_at_call 64; refine (HT1.out _).mono ?_; rintro e w2 ⟨rfl, b1, b2, b3, n1, n2, n3, q1, q2, q3, hF2, hS, hr2⟩; have c5 := fs5 hS.fs; have f5 := thawAt hS.fs 5))
      have hF6 : FileAt (w2.setCell ⟨fb, 5, none⟩ (.int .i64 u)) xb num now sure links := (Kept.set fb 5 _).fs hF2 (by simpa using fun e => hfx e.symm)
      have x6 := fl2 hF6
      have HR6 := hideIt (fun xo => (hr2 xo).trans (Frm.fs1 (Kept.set fb 5 (.int .i64 u)) hS.fs hS.a0))
      have HLA : Hid (∀ X, Kept [] (w2.setCell ⟨fb, 5, none⟩ (.int .i64 u)) X → Calls Tryz.prog 67 #[.pointer (some ⟨fb, 0, none⟩), .pointer (some ⟨xb, 0, none⟩), .string s, .string sure] X fun e w' => e = .returned (.tuple #[]) ∧
          (∃ n3', n3' ≤ n3 + 1 ∧ Sg pl A B0 w' fb b1 b2 b3 done came u room (steps + 1) n1 n2 n3' k D1 D2 (LayTo D3 num xb s sure) xs) ∧ FileAt w' xb num s sure links ∧ ∀ xo, ¬ xo xb → Frm A fb xo w w') :=
        hideIt (fun X hX => (lay_sg ((hS.setUsed u).keep0 hX) (hX.fs hF6 (by simp)) hfx hnum (by omega) s sure hss hsu hAx).mono fun e w' ⟨a1, a2, a3, a4⟩ => ⟨a1, a2, a3, fun xo hx => ((HR6.out xo).trans (Frm.kept0 hX)).trans (a4 xo hx)⟩)
      have HX6 := hideIt (fun (X : World) (hX : Kept [] (w2.setCell ⟨fb, 5, none⟩ (.int .i64 u)) X) => fl2 (hX.fs hF6 (by simp)))
      clear hS hF2 hr2 hF6
      go_region_held3 (fun X => X.cell? ⟨xb, 2, none⟩ = some (.string sure)) (first | exact x6 | exact HX6.out _ (kept_drew (by assumption)) | exact fl2 (by assumption) | assumption) (first | (go_at_call 66; refine (clone_any s _ (by omega)).mono ?_; rintro e w5 ⟨rfl, hb5⟩) | (go_at_call 67; refine (HLA.out _ (kept_drew hb5)).mono ?_; rintro e w6 ⟨rfl, ⟨n3', q4, hS7⟩, hF7, hr7⟩))
      go_wp2
      go_ret
      exact .inr ⟨HBG.out, rfl, HPA.out, b1, b2, b3, n1, n2, n3', done, xb, num, now, sure, links, u, q1, q2, by omega, HU.out, HPV.out, HFX.out, hF7, hS7, hr7⟩
end
end Go.Proofs.YtknmmlfdlfioiaaGreatDoor.Vc
namespace Go.Proofs.YtknmmlfdlfioiaaGreatDoor.Vc
open Go.RowKit Go.Shelf Go.Maps
variable {B0 : Nat} {A : Nat → Prop} {pl : Value}
section
variable {w : World} {fb : Nat} {nv sv uv done : Value} {came : Nat} {used : Int} {room steps N k : Nat} {D1 D2 D3 : DataW Value} {xs : List Value}
set_option maxHeartbeats 1600000 in
set_option maxRecDepth 100000 in
theorem write_no (hV : View pl A B0 w fb nv sv uv done came used room steps N k D1 D2 D3 xs) (hm : MaxAt w) (p s : ByteArray) (hp : p.size ≤ 140737488355328) (hgood : wrN D1 p ≠ 0) :
    Calls Tryz.prog 40 #[.pointer (some ⟨fb, 0, none⟩), .string p, .string s] w fun e w' => Refd (wrN D1 p) w e w' := by
  obtain ⟨W, hW⟩ : ∃ W, w.alloc (.cells #[.string p] 9) = W := ⟨_, rfl⟩
  have hkW : Kept [] w W := by rw [← hW]; exact Kept.alloc _ _
  have hrow : W.heap[w.heap.size]? = some (.cells #[.string p] 9 (0, 0)) := by rw [← hW]; exact alloc_at rfl
  have hf := hkW.fs hV.fs (by simp)
  have HH := hideIt (hindered_one hf (hkW.max hm (by simp)) p hp w.heap.size 9 hrow)
  have HF : Hid (∀ X, Below W.heap.size W X → Kept [] w X ∧ FsAt X fb nv sv done uv came used room steps false pl) := hideIt (fun X hX => ⟨(hkW.trans (Kept.of_below hX)).sub (by simp), (Kept.of_below hX).fs hf (by simp)⟩)
  cases hpath : pathL p.data.toList with
  | false =>
    have HE : Hid (wrN D1 p = 30) := hideIt (by rw [wrN, if_neg (by rw [hpath]; simp)])
    have he : errPath p = 30 := by rw [errPath, if_neg (by rw [hpath]; simp)]
    rw [he] at HH
    clear hV hm hrow hf hkW he hgood
    go_enter Tryz.func40, Tryz.ntmps40
    go_wp2_with (first | (go_at_call 54; refine HH.out.mono ?_; rintro e w1 ⟨rfl, hb1⟩))
    go_ret
    rw [HE.out]; exact ⟨rfl, (HF.out _ hb1).1⟩
  | true =>
    have he : errPath p = 0 := by rw [errPath, if_pos hpath]
    rw [he] at HH
    have hps := path_size p hpath
    have hds := dir_size p (by omega)
    have HD := hideIt (fun X => folderOf_any p X hp)
    obtain ⟨d, hd⟩ : ∃ d, dirOf p = d := ⟨_, rfl⟩
    have HFO := hideIt (fun X hX => hV.fold X hX d (by rw [← hd]; exact hds))
    have HFP := hideIt (fun X hX => hV.fold X hX p (by omega))
    rw [hd] at HD
    obtain ⟨y, hy⟩ : ∃ y, folderB D1 d (pv D1 d) = y := ⟨_, rfl⟩
    obtain ⟨x, hx⟩ : ∃ x, folderB D1 p (pv D1 p) = x := ⟨_, rfl⟩
    rw [hy] at HFO
    rw [hx] at HFP
    have HE : Hid (wrN D1 p = if y then (if x then 31 else 0) else 2) := hideIt (by rw [wrN, if_pos hpath, hd, hy, hx])
    rw [HE.out] at hgood
    clear hV hm hrow hf hkW he hpath hd hy hx
    cases y with
    | false =>
      clear hgood
      go_enter Tryz.func40, Tryz.ntmps40
      go_wp2_with (first | (go_at_call 54; refine HH.out.mono ?_; rintro e w1 ⟨rfl, hb1⟩))
      obtain ⟨hk1, hf1⟩ := HF.out w1 hb1
      have d0 := fs0 hf1
      have HK1 := hideIt hk1
      clear hk1 hf1
      go_region_held3 (fun X => X.cell? ⟨fb, 0, none⟩ = some nv) (first | exact d0 | assumption) (first | (go_at_call 47; refine (HD.out _).mono ?_; rintro e wx ⟨rfl, rfl⟩) | (go_at_call 46; refine (HFO.out _ (by exact HK1.out.drew)).mono ?_; rintro e wx ⟨rfl, rfl⟩))
      go_wp2
      go_ret
      rw [HE.out]; exact ⟨rfl, HK1.out.drew⟩
    | true =>
      cases x with
      | false => exact absurd rfl hgood
      | true =>
        clear hgood
        go_enter Tryz.func40, Tryz.ntmps40
        go_wp2_with (first | (go_at_call 54; refine HH.out.mono ?_; rintro e w1 ⟨rfl, hb1⟩))
        obtain ⟨hk1, hf1⟩ := HF.out w1 hb1
        have d0 := fs0 hf1
        have HK1 := hideIt hk1
        clear hk1 hf1
        go_region_held3 (fun X => X.cell? ⟨fb, 0, none⟩ = some nv) (first | exact d0 | assumption) (first | (go_at_call 47; refine (HD.out _).mono ?_; rintro e wx ⟨rfl, rfl⟩) | (go_at_call 46; refine (HFO.out _ (by exact HK1.out.drew)).mono ?_; rintro e wx ⟨rfl, rfl⟩))
        go_wp2_with (first | (go_at_call 46; refine (HFP.out _ (by exact HK1.out.drew)).mono ?_; rintro e wx ⟨rfl, hwx⟩; obtain rfl := hwx.symm))
        go_ret
        rw [HE.out]; exact ⟨rfl, HK1.out.drew⟩
end
end Go.Proofs.YtknmmlfdlfioiaaGreatDoor.Vc
namespace Go.Proofs.YtknmmlfdlfioiaaGreatDoor.Vc
open Go.RowKit Go.Shelf Go.Maps
variable {B0 : Nat} {A : Nat → Prop} {pl : Value}
/-- Something that was done to names. -/
structure Ac where
  kind : Int
  p : ByteArray
  to : ByteArray
  f : Option Addr
def acV (a : Ac) : List Value := [.int .i64 a.kind, .string a.p, .string a.to, .pointer a.f]
def acsV (l : List Ac) : List Value := l.flatMap acV
theorem acsV_len : ∀ l : List Ac, (acsV l).length = l.length * 4
  | [] => rfl
  | a :: t => by
    have := acsV_len t
    unfold acsV at this ⊢
    simp only [List.flatMap_cons, List.length_append, this, List.length_cons]
    simp [acV]
    omega
theorem acsV_append (a b : List Ac) : acsV (a ++ b) = acsV a ++ acsV b := by simp [acsV]
theorem acsV_at : ∀ (l : List Ac) (j r : Nat) (a : Ac), l[j]? = some a → r < 4 → (acsV l)[j * 4 + r]? = (acV a)[r]?
  | [], j, r, a, h, _ => by simp at h
  | x :: t, 0, r, a, h, hr => by
    simp at h
    subst h
    show (acV x ++ acsV t)[0 * 4 + r]? = _
    rw [Nat.zero_mul, Nat.zero_add, List.getElem?_append_left (by simpa [acV] using hr)]
  | x :: t, j + 1, r, a, h, hr => by
    have ih := acsV_at t j r a (by simpa using h) hr
    show (acV x ++ acsV t)[(j + 1) * 4 + r]? = _
    rw [List.getElem?_append_right (by simp [acV]; omega), ← ih]
    congr 1
    simp [acV]
    omega
def AcOK (a : Ac) : Prop := (a.kind = 0 ∨ a.kind = 1 ∨ a.kind = 2) ∧ a.p.size ≤ 1000 ∧ a.to.size ≤ 1000
def inA (q : ByteArray) (a : Ac) : Bool := inB a.kind a.p a.to q
/-- A row's four cells at a place. -/
structure Four (w : World) (g j : Nat) (a : Ac) : Prop where
  c0 : w.cell? ⟨g, j * 4, none⟩ = some (.int .i64 a.kind)
  c1 : w.cell? ⟨g, j * 4 + 1, none⟩ = some (.string a.p)
  c2 : w.cell? ⟨g, j * 4 + 2, none⟩ = some (.string a.to)
  c3 : w.cell? ⟨g, j * 4 + 3, none⟩ = some (.pointer a.f)
theorem four_row {w : World} {g k c : Nat} {l : List Ac} (h : w.ownsRow B0 69 4 (.slice (some ⟨g, 0, none⟩) k c) k (acsV l)) {j : Nat} {a : Ac} (ha : l[j]? = some a) : Four w g j a := by
  have hl := h.1
  rw [acsV_len] at hl
  have hj : j < l.length := (List.getElem?_eq_some_iff.1 ha).1
  have e : ∀ r, r < 4 → w.cell? ⟨g, j * 4 + r, none⟩ = (acV a)[r]? := fun r hr => by
    rw [h.cellAt (j * 4 + r) (by omega), acsV_at l j r a ha hr]
  exact ⟨by have := e 0 (by omega); rw [Nat.add_zero] at this; exact this, e 1 (by omega), e 2 (by omega), e 3 (by omega)⟩
/-- How many stand ahead of the first of a folder. -/
def ahead (q : ByteArray) : List Ac → Nat
  | [] => 0
  | a :: t => if inA q a then 0 else ahead q t + 1
theorem ahead_le (q : ByteArray) : ∀ l, ahead q l ≤ l.length
  | [] => Nat.le_refl _
  | a :: t => by
    rw [ahead]
    split
    · exact Nat.zero_le _
    · have := ahead_le q t; simp; omega
theorem ahead_skip (q : ByteArray) : ∀ (l : List Ac) (j : Nat), (∀ i a, i < j → l[i]? = some a → inA q a = false) → j ≤ l.length → ahead q l = j + ahead q (l.drop j)
  | l, 0, _, _ => by simp
  | [], j + 1, _, h => by simp at h
  | a :: t, j + 1, hn, h => by
    have h0 := hn 0 a (by omega) rfl
    rw [ahead, if_neg (by rw [h0]; simp), ahead_skip q t j (fun i b hi hb => hn (i + 1) b (by omega) (by simpa using hb)) (by simpa using h)]
    simp
    omega
def idxI (q : ByteArray) (l : List Ac) (k : Nat) : Int := if ahead q l = k then -1 else (ahead q l : Int)
theorem del_enters' : ∀ args w, (callFunc 72 args).run Tryz.prog w = .ok (.enter 72 args) w := enters_of Tryz.func72 (by kernel_rfl) rfl
set_option maxHeartbeats 800000 in
set_option maxRecDepth 100000 in
theorem index_gen (l : List Ac) (hok : ∀ a ∈ l, AcOK a) (q : ByteArray) (w : World) (pb : Nat) (hpb : w.heap[pb]? = some (.cells #[.string q] 9 (0, 0))) (v : Value) (k : Nat) (hlk : l.length = k) (hk : k < 4000000) (hr : w.ownsRow B0 69 4 v k (acsV l)) :
    Calls Tryz.prog 87 #[v, .func (.func 72) #[] #[.pointer (some ⟨pb, 0, none⟩)]] w fun e w' => e = .returned (.int .i64 (idxI q l k)) ∧ Kept [] w w' := by
  have de := del_enters'
  have HR := hideIt hr
  have HP := hideIt hpb
  have HOK := hideIt hok
  have kI : (k : Int) < 4000000 := by omega
  have hv : ∃ a c, v = .slice a k c := by
    rcases hr.2 with ⟨e, e2⟩ | ⟨g, cap, cur, e, _⟩
    · subst e2; exact ⟨_, _, e⟩
    · exact ⟨_, _, e⟩
  obtain ⟨va, vc, rfl⟩ := hv
  have HL := hideIt hlk
  clear hr hpb hok hlk
  go_enter Tryz.func87, Tryz.ntmps87
  go_wp2
  go_loopw [8] (fun t wr => ∃ j : Nat, j ≤ k ∧ t = .int .i64 j ∧ (∀ i a, i < j → l[i]? = some a → inA q a = false) ∧ Kept [] w wr) (fun t _ => k - (intOf t).toNat)
  case atStart => exact ⟨0, by omega, rfl, fun i a h => by omega, Kept.refl _ _⟩
  case round =>
    obtain ⟨j, hj, rfl, hn, hkr⟩ := hrel
    have HK := hideIt hkr
    have HN := hideIt hn
    clear hkr hn
    by_cases hlt : j < k
    · have hid : decide ((j : Int) < (k : Int)) = true := decide_eq_true (by omega)
      have j1 : (j : Int) < (k : Int) := by omega
      obtain ⟨a, ha⟩ : ∃ a, l[j]? = some a := ⟨l[j]'(by rw [HL.out]; exact hlt), by simp⟩
      have hrow := HK.out.row HR.out (by simp)
      obtain ⟨g, c, hvg⟩ : ∃ g c, Value.slice va k vc = .slice (some ⟨g, 0, none⟩) k c := by
        rcases hrow.2 with ⟨e, e2⟩ | ⟨g, cap, cur, e, _⟩
        · omega
        · exact ⟨_, _, e⟩
      simp only [Value.slice.injEq, true_and] at hvg
      obtain ⟨rfl, rfl⟩ := hvg
      have f4 := four_row hrow ha
      have c0 := f4.c0
      have c1 := f4.c1
      have c2 := f4.c2
      have c3 := f4.c3
      have hp4 := HK.out.fs HP.out (by simp)
      have hak := HOK.out a (List.mem_of_getElem? ha)
      have HI := hideIt (del_gen a.kind hak.1 a.p a.to q hak.2.1 hak.2.2 a.f wr pb (cellAt hp4 rfl) (block_lt hp4))
      have HA := hideIt ha
      obtain ⟨y, hy⟩ : ∃ y, inB a.kind a.p a.to q = y := ⟨_, rfl⟩
      rw [hy] at HI
      have HY : Hid (inA q a = y) := hideIt hy
      clear f4 hrow hp4 ha hak hy
      cases y with
      | true =>
        go_wp2_with (first | (go_at_call 72; refine HI.out.mono ?_; rintro e w1 ⟨rfl, hk1⟩))
        go_ret
        have hl := HL.out
        have e1 : ahead q l = j := by
          rw [ahead_skip q l j HN.out (by omega), List.drop_eq_getElem_cons (by omega : j < l.length), ahead]
          have : l[j]'(by omega) = a := by have := HA.out; rw [List.getElem?_eq_getElem (by omega : j < l.length)] at this; exact Option.some.inj this
          rw [this, HY.out]
          rfl
        refine ⟨by rw [idxI, if_neg (by omega), e1]; rfl, (HK.out.trans hk1).sub (by simp)⟩
      | false =>
        go_wp2_with (first | (go_at_call 72; refine HI.out.mono ?_; rintro e w1 ⟨rfl, hk1⟩))
        go_roundw
        case rel =>
          refine ⟨j + 1, by omega, by go_num, fun i b hi hb => ?_, (HK.out.trans hk1).sub (by simp)⟩
          by_cases e : i = j
          · subst e
            have := HA.out
            rw [hb] at this
            obtain rfl := Option.some.inj this
            exact HY.out
          · exact HN.out i b (by omega) hb
        case measure => simp [intOf]; omega
    · have hid : decide ((j : Int) < (k : Int)) = false := decide_eq_false (by omega)
      obtain rfl : j = k := by omega
      have e1 : ahead q l = j := by
        have hl := HL.out
        rw [ahead_skip q l j HN.out (by omega), List.drop_of_length_le (by omega)]
        rfl
      have HE := hideIt e1
      clear e1
      go_wp2
      go_ret
      exact ⟨by rw [idxI, HE.out, if_pos rfl]; rfl, HK.out⟩
end Go.Proofs.YtknmmlfdlfioiaaGreatDoor.Vc
