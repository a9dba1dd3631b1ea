/- Names and runes: plain readings of a text's bytes. Small facts on texts, letters and worlds that the walks of this seat share. Which texts may be names, as the program says it, walked. How many runes a text has, and which texts may be refs' names, as the program says it, walked. How many runes a text has, and which texts may be refs' names, as the program says it, walked. Which texts may be refs' names, as the document's copy says it, and as the program does, walked. The document's own way to tell runes, walked. How many runes a text has, as the document's copy says it, walked. Names and runes as the document's copy has them, walked. -/
import Derived.Lib.DecodeN
import Derived.Laws.RangeAny
import Derived.Test.YtmjffngpaoaflaaGreatDoorProg
import Derived.WalkKit
import Derived.BigRegion
import Derived.Deep.QuietTactic
import Derived.BigQuiet
namespace Go.Proofs.YtmjffngpaoaflaaGreatDoor
open Go.Lib
namespace Lb
/-- The runes of a text from a place on, each with its width, as the language goes through it. -/
def runesF (s : ByteArray) : Nat → Nat → List (Nat × Nat)
  | 0, _ => []
  | f + 1, pos => if pos < s.size then Utf8.decode s pos :: runesF s f (pos + (Utf8.decode s pos).2) else []
def runes (s : ByteArray) : List (Nat × Nat) := runesF s s.size 0
/-- A byte that is no rune. -/
def isBad (d : Nat × Nat) : Bool := decide (d.1 = 65533) && decide (d.2 = 1)
/-- The number that the document's copy tells. -/
def refV (d : Nat × Nat) : Int := if isBad d = true then -1 else (d.1 : Int)
def bar (x : Nat) : Bool := decide (x < 32) || (decide (127 ≤ x) && decide (x ≤ 159)) || decide (x = 47) || decide (x = 65533)
def noName (l : List UInt8) : Bool := l == [] || decide (64 < l.length) || l == [46] || l == [46, 46]
def nameB (s : ByteArray) : Bool := !noName s.data.toList && (runes s).all (fun d => !bar d.1)
def good (s : ByteArray) (f pos : Nat) : Nat := (runesF s f pos).countP (fun d => !isBad d)
def bad (s : ByteArray) (f pos : Nat) : Nat := (runesF s f pos).countP isBad
theorem width_pos (s : ByteArray) (pos : Nat) (h : pos < s.size) : 1 ≤ (Utf8.decode s pos).2 := by
  by_cases ha : (s[pos]'h).toNat < 128
  · rw [decode_ascii s pos h ha]
    exact Nat.le_refl _
  · exact (decode_high s pos h (by omega)).2
theorem runes_step (s : ByteArray) (f pos : Nat) (h : pos < s.size) : runesF s (f + 1) pos = Utf8.decode s pos :: runesF s f (pos + (Utf8.decode s pos).2) := by rw [runesF, if_pos h]
theorem runes_end (s : ByteArray) (f pos : Nat) (h : ¬ pos < s.size) : runesF s f pos = [] := by cases f <;> simp [runesF, h]
theorem decodeN_width (n b0 b1 b2 b3 : Nat) (hn : 0 < n) : 1 ≤ (decodeN n b0 b1 b2 b3).2 ∧ (decodeN n b0 b1 b2 b3).2 ≤ n := by
  unfold decodeN
  repeat' split
  all_goals (dsimp only; omega)
theorem decode_width (s : ByteArray) (pos : Nat) (h : pos < s.size) : pos + (Utf8.decode s pos).2 ≤ s.size := by
  rw [decode_at]
  have := (decodeN_width (s.size - pos) (s.get! pos).toNat (s.get! (pos + 1)).toNat (s.get! (pos + 2)).toNat (s.get! (pos + 3)).toNat (by omega)).2
  omega
theorem get_list (s : ByteArray) (i : Nat) : s.get! i = s.data.toList.getD i 0 := by
  by_cases h : i < s.size
  · have h' : i < s.data.size := h
    rw [ByteArray.get!, getElem!_pos s.data i h', List.getD_eq_getElem?_getD, List.getElem?_eq_getElem (by simpa using h')]
    simp
  · have h' : ¬ i < s.data.size := h
    rw [ByteArray.get!, getElem!_neg s.data i h', List.getD_eq_getElem?_getD, List.getElem?_eq_none (by simpa using h')]
    rfl
theorem get_cut (s : ByteArray) (pos i : Nat) : (s.extract pos s.size).get! i = s.get! (pos + i) := by
  rw [get_list, get_list, ByteArray.data_extract]
  have h : s.data.size = s.size := rfl
  simp only [Array.toList_extract, List.extract_eq_take_drop, List.getD_eq_getElem?_getD]
  rw [List.take_of_length_le (by simp), List.getElem?_drop]
theorem size_cut (s : ByteArray) (pos : Nat) : (s.extract pos s.size).size = s.size - pos := by rw [ByteArray.size_extract]; omega
/-- What stands behind a place has the runes of the whole from there on. -/
theorem decode_cut (s : ByteArray) (pos : Nat) : Utf8.decode (s.extract pos s.size) 0 = Utf8.decode s pos := by
  rw [decode_at, decode_at, size_cut, get_cut, get_cut, get_cut, get_cut]
  simp
theorem cut_cut (s : ByteArray) (pos k : Nat) : (s.extract pos s.size).extract k (s.extract pos s.size).size = s.extract (pos + k) s.size := by
  have h : s.data.size = s.size := rfl
  have e : ∀ t : ByteArray, t.data.toList = (s.extract (pos + k) s.size).data.toList → t = s.extract (pos + k) s.size := by
    intro t ht; cases t; cases hh : s.extract (pos + k) s.size; simp [hh] at ht; simp [ht]
  apply e
  rw [size_cut]
  simp only [ByteArray.data_extract, Array.toList_extract, List.extract_eq_take_drop]
  rw [List.take_of_length_le (i := s.size - pos - k) (by simp), List.take_of_length_le (i := s.size - pos) (by simp), List.take_of_length_le (by simp), List.drop_drop]
/-- The document's way to tell the first rune, by classes of the first byte. -/
def valC (v least : Int) (n : Nat) : Int × Nat := if v < least ∨ (55296 ≤ v ∧ v < 57344) ∨ 1114111 < v then (-1, 1) else (v, n)
def cont (b : Nat) : Bool := decide (128 ≤ b) && decide (b ≤ 191)
def fstN (n b0 b1 b2 b3 : Nat) : Int × Nat :=
  if b0 < 128 then ((b0 : Int), 1)
  else if 194 ≤ b0 ∧ b0 < 224 then
    (if n ≤ 1 then (-1, 1) else if cont b1 = false then (-1, 1) else valC (((b0 : Int) - 192) * 64 + b1 - 128) 128 2)
  else if 224 ≤ b0 ∧ b0 < 240 then
    (if n ≤ 2 then (-1, 1) else if cont b1 = false then (-1, 1) else if cont b2 = false then (-1, 1) else valC ((((b0 : Int) - 224) * 64 + b1 - 128) * 64 + b2 - 128) 2048 3)
  else if 240 ≤ b0 ∧ b0 < 245 then
    (if n ≤ 3 then (-1, 1) else if cont b1 = false then (-1, 1) else if cont b2 = false then (-1, 1) else if cont b3 = false then (-1, 1) else valC (((((b0 : Int) - 240) * 64 + b1 - 128) * 64 + b2 - 128) * 64 + b3 - 128) 65536 4)
  else (-1, 1)
def refD (d : Nat × Nat) : Int × Nat := (refV d, d.2)
theorem refD_mk (x k : Nat) : refD (x, k) = (if x = 65533 ∧ k = 1 then ((-1 : Int), 1) else ((x : Int), k)) := by
  unfold refD refV isBad
  by_cases h : x = 65533 ∧ k = 1
  · obtain ⟨rfl, rfl⟩ := h; rfl
  · rw [if_neg h, if_neg (by simpa using h)]
set_option maxHeartbeats 4000000 in
theorem fstN_eq (n b0 b1 b2 b3 : Nat) (h0 : b0 < 256) (h1 : b1 < 256) (h2 : b2 < 256) (h3 : b3 < 256) : fstN n b0 b1 b2 b3 = refD (decodeN n b0 b1 b2 b3) := by
  unfold fstN decodeN valC cont
  simp only [Bool.and_eq_false_iff, decide_eq_false_iff_not]
  repeat' split
  all_goals rw [refD_mk]
  all_goals first | (rw [if_pos (by omega)]; done) | (rw [if_neg (by omega)]; done) | (rw [if_neg (by omega)]; apply Prod.ext <;> simp only <;> omega) | (exfalso; omega)
theorem first_eq (s : ByteArray) : fstN s.size (s.get! 0).toNat (s.get! 1).toNat (s.get! 2).toNat (s.get! 3).toNat = refD (Utf8.decode s 0) := by
  rw [fstN_eq _ _ _ _ _ (UInt8.toNat_lt _) (UInt8.toNat_lt _) (UInt8.toNat_lt _) (UInt8.toNat_lt _), decode_at]
  simp
theorem bad_prefix (n b0 b1 b2 b3 : Nat) (h1 : b1 < 256) (h : (decodeN n b0 b1 b2 b3).1 = 65533) : isBad (decodeN n b0 b1 b2 b3) = !(decide (3 ≤ n) && decide (b0 = 239) && decide (b1 = 191) && decide (b2 = 189)) := by
  have e : isBad (decodeN n b0 b1 b2 b3) = decide ((decodeN n b0 b1 b2 b3).2 = 1) := by simp [isBad, h]
  rw [e]
  have k : ((decodeN n b0 b1 b2 b3).2 = 1) ↔ ¬ (3 ≤ n ∧ b0 = 239 ∧ b1 = 191 ∧ b2 = 189) := by
    revert h
    unfold decodeN
    repeat' split
    all_goals (dsimp only; omega)
  by_cases hh : 3 ≤ n ∧ b0 = 239 ∧ b1 = 191 ∧ b2 = 189
  · have := mt k.1 (not_not_intro hh)
    obtain ⟨a, b, c, d⟩ := hh
    rw [decide_eq_false this]
    simp [a, b, c, d]
  · have := k.2 hh
    simp only [this, decide_true]
    have : ¬ ((3 ≤ n ∧ b0 = 239) ∧ b1 = 191) ∨ ¬ b2 = 189 := by omega
    symm
    simp only [Bool.not_eq_true', Bool.and_eq_false_iff, decide_eq_false_iff_not]
    omega
end Lb
end Go.Proofs.YtmjffngpaoaflaaGreatDoor
namespace Go.Proofs.YtmjffngpaoaflaaGreatDoor
open Go.RowKit
theorem hideIt {p : Prop} (h : p) : Hid p := h
def bs (l : List UInt8) : ByteArray := ⟨l.toArray⟩
theorem bs_data (s : ByteArray) : bs s.data.toList = s := by cases s; simp [bs]
theorem bs_list (l : List UInt8) : (bs l).data.toList = l := by simp [bs]
theorem bs_size (l : List UInt8) : (bs l).size = l.length := by simp [bs, ByteArray.size]
theorem str_len (s : ByteArray) : s.data.toList.length = s.size := by rw [Array.length_toList]; rfl
theorem cat_data (a b : ByteArray) : (a ++ b).data.toList = a.data.toList ++ b.data.toList := by rw [ByteArray.data_append, Array.toList_append]
theorem below_step {B : Nat} {w a b : World} (h : Below B w a) (hB : B ≤ w.heap.size) (k : Below a.heap.size a b) : Below B w b := h.trans (k.mono (Nat.le_trans hB h.size))
theorem below2 {w a b : World} (h : Below w.heap.size w a) (k : Below a.heap.size a b) : Below w.heap.size w b := below_step h (Nat.le_refl _) k
theorem below_iter (w : World) (s : ByteArray) (pos : Nat) : Below w.heap.size w (w.iter s pos) := (Below.refl _ _).alloc (Nat.le_refl _) _
theorem alloc_at {w : World} {o : Obj} {n : Nat} (h : w.heap.size = n) : (w.alloc o).heap[n]? = some o := by subst h; exact heap_alloc_new w o
/-- What a name must not be, as the walk asks it. -/
structure SegCmp (s : ByteArray) (a b c : Bool) : Prop where
  a1 : (s.toList == []) = a
  a2 : s.toList.isEmpty = a
  b1 : (s.toList == [46]) = b
  c1 : (s.toList == [46, 46]) = c
theorem seg_cmp (s : ByteArray) : SegCmp s (s.data.toList == []) (s.data.toList == [46]) (s.data.toList == [46, 46]) := by
  refine ⟨by rw [ByteArray.toList_eq], ?_, by rw [ByteArray.toList_eq], by rw [ByteArray.toList_eq]⟩
  rw [ByteArray.toList_eq]
  cases s.data.toList <;> rfl
theorem noName_of (s : ByteArray) {a b c d : Bool} (ha : (s.data.toList == []) = a) (hd : decide ((64 : Int) < (s.size : Int)) = d) (hb : (s.data.toList == [46]) = b) (hc : (s.data.toList == [46, 46]) = c) : Lb.noName s.data.toList = (((a || d) || b) || c) := by
  subst ha hb hc hd
  unfold Lb.noName
  rw [str_len]
  congr 1
  congr 1
  congr 1
  apply decide_eq_decide.2
  omega
/-- How a rune compares with what is barred. -/
structure BarC (x : Int) (a b c d e : Bool) : Prop where
  a1 : decide (x < (32 : Int)) = a
  b1 : decide ((127 : Int) ≤ x) = b
  c1 : decide (x ≤ (159 : Int)) = c
  d1 : (x == 47) = d
  e1 : (x == 65533) = e
def barI (x : Int) : Bool := decide (x < 32) || (decide (127 ≤ x) && decide (x ≤ 159)) || (x == 47) || (x == 65533)
theorem barI_of {x : Int} {a b c d e : Bool} (h : BarC x a b c d e) : barI x = (((a || (b && c)) || d) || e) := by
  obtain ⟨h1, h2, h3, h4, h5⟩ := h
  subst h1 h2 h3 h4 h5
  rfl
theorem bar_cases (x : Int) : BarC x true false true false false ∨ BarC x false false true true false ∨ BarC x false false true false false ∨ BarC x false true true false false ∨ BarC x false true false false false ∨ BarC x false true false false true := by
  have mk : ∀ a b c d e : Bool, (decide (x < (32 : Int)) = a ∧ decide ((127 : Int) ≤ x) = b ∧ decide (x ≤ (159 : Int)) = c ∧ (x == 47) = d ∧ (x == 65533) = e) → BarC x a b c d e := fun a b c d e h => ⟨h.1, h.2.1, h.2.2.1, h.2.2.2.1, h.2.2.2.2⟩
  by_cases h1 : x < 32
  · exact .inl (mk _ _ _ _ _ (by simp; omega))
  · by_cases h2 : x = 47
    · exact .inr (.inl (mk _ _ _ _ _ (by simp; omega)))
    · by_cases h3 : x < 127
      · exact .inr (.inr (.inl (mk _ _ _ _ _ (by simp; omega))))
      · by_cases h4 : x ≤ 159
        · exact .inr (.inr (.inr (.inl (mk _ _ _ _ _ (by simp; omega)))))
        · by_cases h5 : x = 65533
          · exact .inr (.inr (.inr (.inr (.inr (mk _ _ _ _ _ (by simp; omega))))))
          · exact .inr (.inr (.inr (.inr (.inl (mk _ _ _ _ _ (by simp; omega))))))
theorem barI_nat (x : Nat) : barI (x : Int) = Lb.bar x := by
  unfold barI Lb.bar
  have e1 : ∀ n : Nat, ((x : Int) == (n : Int)) = decide (x = n) := by intro n; by_cases hh : x = n <;> simp [hh] <;> omega
  have e47 := e1 47
  have e65 := e1 65533
  simp only [Int.cast_ofNat_Int] at e47 e65
  rw [e47, e65]
  congr 1
  congr 1
  congr 1
  · apply decide_eq_decide.2; omega
  · congr 1 <;> (apply decide_eq_decide.2; omega)
theorem barI_ref (d : Nat × Nat) : barI (Lb.refV d) = Lb.bar d.1 := by
  unfold Lb.refV
  by_cases h : Lb.isBad d = true
  · rw [if_pos h]
    have : d.1 = 65533 := by simp [Lb.isBad] at h; exact h.1
    rw [this]
    rfl
  · rw [if_neg h, barI_nat]
/-- How a letter compares: all that a walk asks, as equations. -/
structure Cmp (x : Int) (a b c d f g : Bool) : Prop where
  a1 : decide ((97 : Int) ≤ x) = a
  b1 : decide (x ≤ (122 : Int)) = b
  c1 : decide ((48 : Int) ≤ x) = c
  d1 : decide (x ≤ (57 : Int)) = d
  f1 : (x == 45) = f
  g1 : (x == 95) = g
theorem cmp_cases (x : Int) : Cmp x true true true false false false ∨ Cmp x true false true false false false ∨ Cmp x false true true true false false ∨ Cmp x false true true false false true ∨ Cmp x false true true false false false
    ∨ Cmp x false true false true true false ∨ Cmp x false true false true false false := by
  have mk : ∀ a b c d f g : Bool, (decide ((97 : Int) ≤ x) = a ∧ decide (x ≤ (122 : Int)) = b ∧ decide ((48 : Int) ≤ x) = c ∧ decide (x ≤ (57 : Int)) = d ∧ (x == 45) = f ∧ (x == 95) = g) → Cmp x a b c d f g := fun a b c d f g h => ⟨h.1, h.2.1, h.2.2.1, h.2.2.2.1, h.2.2.2.2.1, h.2.2.2.2.2⟩
  by_cases h1 : 97 ≤ x
  · by_cases h2 : x ≤ 122
    · exact .inl (mk _ _ _ _ _ _ (by simp; omega))
    · exact .inr (.inl (mk _ _ _ _ _ _ (by simp; omega)))
  · by_cases h3 : 48 ≤ x
    · by_cases h4 : x ≤ 57
      · exact .inr (.inr (.inl (mk _ _ _ _ _ _ (by simp; omega))))
      · by_cases h5 : x = 95
        · exact .inr (.inr (.inr (.inl (mk _ _ _ _ _ _ (by simp; omega)))))
        · exact .inr (.inr (.inr (.inr (.inl (mk _ _ _ _ _ _ (by simp; omega))))))
    · by_cases h7 : x = 45
      · exact .inr (.inr (.inr (.inr (.inr (.inl (mk _ _ _ _ _ _ (by simp; omega)))))))
      · exact .inr (.inr (.inr (.inr (.inr (.inr (mk _ _ _ _ _ _ (by simp; omega)))))))
def refI (x : Int) : Bool := (decide (97 ≤ x) && decide (x ≤ 122)) || (decide (48 ≤ x) && decide (x ≤ 57)) || (x == 45) || (x == 95)
theorem refI_of {x : Int} {a b c d f g : Bool} (h : Cmp x a b c d f g) : refI x = ((((a && b) || (c && d)) || f) || g) := by
  obtain ⟨h1, h2, h3, h4, h5, h6⟩ := h
  subst h1 h2 h3 h4 h5 h6
  rfl
theorem refI_big (x : Nat) (h : 128 ≤ x) : refI (x : Int) = false := by
  unfold refI
  simp
  omega
theorem at_list (p : ByteArray) (k : Nat) (h : k < p.size) : p.data.toList[k]? = some p[k] := by
  rw [List.getElem?_eq_getElem (by rw [str_len]; exact h)]
  rfl
end Go.Proofs.YtmjffngpaoaflaaGreatDoor
namespace Go.Proofs.YtmjffngpaoaflaaGreatDoor
open Go.RowKit
set_option maxHeartbeats 800000 in
theorem barred_any (x : Nat) (w : World) : Calls Tryz.prog 91 #[.int .i32 (x : Int)] w fun e w' => e = .returned (.bool (Lb.bar x)) ∧ w' = w := by
  rw [← barI_nat]
  rcases bar_cases (x : Int) with H | H | H | H | H | H
  all_goals (have HB := hideIt (barI_of H); obtain ⟨q1, q2, q3, q4, q5⟩ := H)
  all_goals go_enter Tryz.func91, Tryz.ntmps91
  all_goals go_wp2
  all_goals go_ret
  all_goals exact ⟨by rw [HB.out]; rfl, rfl⟩
theorem all_step {s : ByteArray} {f pos : Nat} {p : Nat × Nat → Bool} {b : Bool} (h : pos < s.size) (hb : s.size ≤ pos + f) (e : (Lb.runesF s f pos).all p = b) : ∃ g, s.size ≤ pos + (Utf8.decode s pos).2 + g ∧ (p (Utf8.decode s pos) && (Lb.runesF s g (pos + (Utf8.decode s pos).2)).all p) = b := by
  cases f with
  | zero => omega
  | succ f =>
    have := Lb.width_pos s pos h
    refine ⟨f, by omega, ?_⟩
    rw [← e, Lb.runes_step s f pos h, List.all_cons]
set_option maxHeartbeats 1600000 in
set_option maxRecDepth 100000 in
theorem name_any (s : ByteArray) (w : World) :
    Calls Tryz.prog 71 #[.string s] w fun e w' => e = .returned (.bool (Lb.nameB s)) ∧ Below w.heap.size w w' := by
  obtain ⟨e1, e2, e3, e4⟩ := seg_cmp s
  have HN := hideIt (noName_of s rfl rfl rfl rfl)
  have HD : Hid (Lb.nameB s = (!Lb.noName s.data.toList && (Lb.runes s).all (fun d => !Lb.bar d.1))) := rfl
  rw [HN.out] at HD
  clear HN
  obtain ⟨m, hm⟩ : ∃ m : Int, (s.size : Int) = m := ⟨_, rfl⟩
  rw [hm] at HD
  generalize hx1 : (s.data.toList == []) = x1 at *
  generalize hx2 : (s.data.toList == [46]) = x2 at *
  generalize hx3 : (s.data.toList == [46, 46]) = x3 at *
  generalize hx4 : decide ((64 : Int) < m) = x4 at *
  clear hx1 hx2 hx3
  cases x1 <;> cases x4 <;> cases x2 <;> cases x3
  case false.false.false.false =>
    have HD' : Hid (Lb.nameB s = (Lb.runes s).all (fun d => !Lb.bar d.1)) := hideIt (by rw [HD.out]; simp)
    clear HD
    go_enter Tryz.func71, Tryz.ntmps71
    go_wp2
    go_loopw [4] (fun _ wr => ∃ pos f : Nat, wr = w.iter s pos ∧ s.size ≤ pos + f ∧ (Lb.runesF s f pos).all (fun d => !Lb.bar d.1) = Lb.nameB s) (fun _ wr => s.size - wr.iterPos w.heap.size)
    case atStart => exact ⟨0, s.size, rfl, by omega, by rw [HD'.out]; rfl⟩
    case round =>
      obtain ⟨pos, f, rfl, hf, hr⟩ := hrel
      by_cases hp : pos < s.size
      · obtain ⟨g, hg, he⟩ := all_step hp hf hr
        have hw := Lb.width_pos s pos hp
        have hnx : ∀ ty, (Instr.next (.pointer (some ⟨w.heap.size, 0, none⟩)) true ty).run Tryz.prog (w.iter s pos) = _ := fun ty => run_next_any w s pos ty hp
        obtain ⟨d, hd⟩ : ∃ d, Utf8.decode s pos = d := ⟨_, rfl⟩
        rw [hd] at hg he hw
        simp only [hd] at hnx
        obtain ⟨x, k⟩ := d
        simp only at hg he hw hnx
        have HB := hideIt (barred_any x)
        have HE := hideIt he
        clear hd he hr hf
        generalize Lb.bar x = b at *
        cases b
        · go_wp2_with (first | (go_at_call 91; refine (HB.out _).mono ?_; rintro e wx ⟨rfl, hwx⟩; obtain rfl := hwx.symm))
          go_roundw
          case rel => exact ⟨pos + k, g, rfl, hg, by simpa using HE.out⟩
          case measure => simp; omega
        · go_wp2_with (first | (go_at_call 91; refine (HB.out _).mono ?_; rintro e wx ⟨rfl, hwx⟩; obtain rfl := hwx.symm))
          go_ret
          exact ⟨by rw [← HE.out]; rfl, below_iter _ _ _⟩
      · have hnx : ∀ ty, (Instr.next (.pointer (some ⟨w.heap.size, 0, none⟩)) true ty).run Tryz.prog (w.iter s pos) = _ := fun ty => run_next_end w s pos ty hp
        have HE := hideIt hr
        clear hr
        go_wp2
        go_ret
        exact ⟨by rw [← HE.out, Lb.runes_end s f pos hp]; rfl, below_iter _ _ _⟩
  all_goals
    have HD' : Hid (Lb.nameB s = false) := hideIt (by rw [HD.out]; simp)
    clear HD
    go_enter Tryz.func71, Tryz.ntmps71
    go_wp2
    go_ret
    exact ⟨by rw [HD'.out]; try rfl, Below.refl _ _⟩
end Go.Proofs.YtmjffngpaoaflaaGreatDoor
namespace Go.Proofs.YtmjffngpaoaflaaGreatDoor
open Go.RowKit
/-- Does a text begin with another one? -/
def pre (a p : ByteArray) : Bool := decide (p.size ≤ a.size) && ((a.extract 0 p.size).toList == p.toList)
set_option maxHeartbeats 400000 in
theorem slpre_any (a p : ByteArray) (w : World) :
    Calls Tryz.prog 94 #[.string a, .string p] w fun e w' => e = .returned (.bool (pre a p)) ∧ w' = w := by
  obtain ⟨n, hn⟩ : ∃ n, a.size = n := ⟨_, rfl⟩
  obtain ⟨m, hm⟩ : ∃ m, p.size = m := ⟨_, rfl⟩
  have hn' : (a.size : Int) = (n : Int) := by rw [hn]
  have hm' : (p.size : Int) = (m : Int) := by rw [hm]
  by_cases h : m ≤ n
  · have c1 : (m : Int) ≤ (n : Int) := by omega
    have c2 : decide ((m : Int) ≤ (n : Int)) = true := by simpa using h
    have HP : Hid (pre a p = ((a.extract 0 m).toList == p.toList)) := hideIt (by rw [pre, hm, hn]; simp [h])
    obtain ⟨x, hx⟩ : ∃ x, ((a.extract 0 m).toList == p.toList) = x := ⟨_, rfl⟩
    rw [hx] at HP
    have b0 : (0 : Int) ≤ (m : Int) := by omega
    cases x
    all_goals
      go_enter Tryz.func94, Tryz.ntmps94
      go_wp2
      go_ret
      exact ⟨by rw [HP.out]; try rfl, rfl⟩
  · have c1 : ¬ (m : Int) ≤ (n : Int) := by omega
    have c2 : decide ((m : Int) ≤ (n : Int)) = false := by simp; omega
    have HP : Hid (pre a p = false) := hideIt (by rw [pre, hm, hn]; simp [h])
    go_enter Tryz.func94, Tryz.ntmps94
    go_wp2
    go_ret
    exact ⟨by rw [HP.out]; try rfl, rfl⟩
theorem hasPrefix_any (a p : ByteArray) (w : World) :
    Calls Tryz.prog 75 #[.string a, .string p] w fun e w' => e = .returned (.bool (pre a p)) ∧ w' = w := by
  have H := hideIt (fun w => slpre_any a p w)
  go_enter Tryz.func75, Tryz.ntmps75
  go_wp2_with (first | (go_at_call 94; refine (H.out _).mono ?_; rintro e wx ⟨rfl, hwx⟩; obtain rfl := hwx.symm))
  go_ret
  exact ⟨rfl, rfl⟩
theorem slcut_any (a p : ByteArray) (w : World) :
    Calls Tryz.prog 95 #[.string a, .string p] w fun e w' => e = .returned (.tuple #[.string (if pre a p = true then a.extract p.size a.size else a), .bool (pre a p)]) ∧ w' = w := by
  have H := hideIt (fun w => slpre_any a p w)
  obtain ⟨n, hn⟩ : ∃ n, a.size = n := ⟨_, rfl⟩
  obtain ⟨m, hm⟩ : ∃ m, p.size = m := ⟨_, rfl⟩
  have hn' : (a.size : Int) = (n : Int) := by rw [hn]
  have hm' : (p.size : Int) = (m : Int) := by rw [hm]
  have hle : pre a p = true → m ≤ n := by intro h; rw [pre, hn, hm] at h; simp at h; exact h.1
  rw [hm, hn]
  obtain ⟨x, hx⟩ : ∃ x, pre a p = x := ⟨_, rfl⟩
  rw [hx] at H hle ⊢
  clear hx
  cases x
  · clear hle
    go_enter Tryz.func95, Tryz.ntmps95
    go_wp2_with (first | (go_at_call 94; refine (H.out _).mono ?_; rintro e wx ⟨rfl, hwx⟩; obtain rfl := hwx.symm))
    go_ret2
    exact ⟨rfl, rfl⟩
  · have hl := hle rfl
    clear hle
    have b0 : (0 : Int) ≤ (m : Int) := by omega
    have b1 : (m : Int) ≤ (n : Int) := by omega
    go_enter Tryz.func95, Tryz.ntmps95
    go_wp2_with (first | (go_at_call 94; refine (H.out _).mono ?_; rintro e wx ⟨rfl, hwx⟩; obtain rfl := hwx.symm))
    go_ret2
    exact ⟨rfl, rfl⟩
theorem cutPrefix_any (a p : ByteArray) (w : World) :
    Calls Tryz.prog 76 #[.string a, .string p] w fun e w' => e = .returned (.tuple #[.string (if pre a p = true then a.extract p.size a.size else a), .bool (pre a p)]) ∧ w' = w := by
  have H := hideIt (fun w => slcut_any a p w)
  obtain ⟨o, ho⟩ : ∃ o, (if pre a p = true then a.extract p.size a.size else a) = o := ⟨_, rfl⟩
  rw [ho] at H ⊢
  obtain ⟨x, hx⟩ : ∃ x, pre a p = x := ⟨_, rfl⟩
  rw [hx] at H ⊢
  clear ho hx
  go_enter Tryz.func76, Tryz.ntmps76
  go_wp2_with (first | (go_at_call 95; refine (H.out _).mono ?_; rintro e wx ⟨rfl, hwx⟩; obtain rfl := hwx.symm))
  go_ret2
  exact ⟨rfl, rfl⟩
set_option maxHeartbeats 800000 in
theorem ofRefs_any (x : Nat) (w : World) : Calls Tryz.prog 119 #[.int .i32 (x : Int)] w fun e w' => e = .returned (.bool (refI (x : Int))) ∧ w' = w := by
  rcases cmp_cases (x : Int) with H | H | H | H | H | H | H
  all_goals (have HB := hideIt (refI_of H); obtain ⟨q1, q2, q3, q4, q5, q6⟩ := H)
  all_goals go_enter Tryz.func119, Tryz.ntmps119
  all_goals go_wp2
  all_goals go_ret
  all_goals exact ⟨by rw [HB.out]; rfl, rfl⟩
/-- What may stand behind a ref's folder. -/
def okRef (o : ByteArray) : Bool := !(o.data.toList == []) && (!decide (64 < o.data.toList.length) && o.data.toList.all (fun c => refI (c.toNat : Int)))
theorem decodeN_big (n b0 b1 b2 b3 : Nat) (h : 128 ≤ b0) : 128 ≤ (Lib.decodeN n b0 b1 b2 b3).1 := by
  unfold Lib.decodeN
  rw [if_neg (by omega)]
  repeat' split
  all_goals first | (dsimp only; omega) | omega
theorem runes_ref (s : ByteArray) : ∀ (f pos : Nat), s.size ≤ f + pos → (Lb.runesF s f pos).all (fun d => refI (d.1 : Int)) = (s.data.toList.drop pos).all (fun c => refI (c.toNat : Int)) := by
  intro f
  induction f with
  | zero =>
    intro pos h
    rw [List.drop_eq_nil_of_le (by rw [str_len]; omega)]
    rfl
  | succ f ih =>
    intro pos h
    by_cases hp : pos < s.size
    · have hl : pos < s.data.toList.length := by rw [str_len]; exact hp
      rw [Lb.runes_step s f pos hp, List.drop_eq_getElem_cons hl, List.all_cons, List.all_cons]
      have hg : s.data.toList[pos] = s.get! pos := by rw [Lb.get_list, List.getD_eq_getElem?_getD, List.getElem?_eq_getElem hl]; rfl
      rw [hg]
      obtain ⟨c, hc⟩ : ∃ c, s.get! pos = c := ⟨_, rfl⟩
      rw [Lib.decode_at, hc]
      by_cases h128 : c.toNat < 128
      · have hd : ∀ n b1 b2 b3, Lib.decodeN n c.toNat b1 b2 b3 = (c.toNat, 1) := by intro n b1 b2 b3; rw [Lib.decodeN, if_pos h128]
        rw [hd]
        dsimp only
        rw [ih (pos + 1) (by omega)]
      · rw [refI_big _ (decodeN_big _ _ _ _ _ (by omega)), refI_big c.toNat (by omega)]
        simp
    · rw [Lb.runes_end _ _ _ hp, List.drop_eq_nil_of_le (by rw [str_len]; omega)]
      rfl
end Go.Proofs.YtmjffngpaoaflaaGreatDoor
namespace Go.Proofs.YtmjffngpaoaflaaGreatDoor
open Go.RowKit
/-- The rune that stands for what is none, told as it stands there. -/
theorem pre_fffd (s : ByteArray) (pos : Nat) : pre (s.extract pos s.size) ⟨#[239, 191, 189]⟩ = (decide (3 ≤ s.size - pos) && decide ((s.get! pos).toNat = 239) && decide ((s.get! (pos + 1)).toNat = 191) && decide ((s.get! (pos + 2)).toNat = 189)) := by
  have hsz : (ByteArray.mk #[239, 191, 189]).size = 3 := rfl
  rw [pre, hsz, Lb.size_cut]
  by_cases h : 3 ≤ s.size - pos
  · have g : ∀ i, s.get! (pos + i) = (s.extract pos s.size).get! i := fun i => (Lb.get_cut s pos i).symm
    have g0 := g 0
    rw [Nat.add_zero] at g0
    rw [g0, g 1, g 2]
    have hz : (s.extract pos s.size).size = s.size - pos := Lb.size_cut s pos
    generalize s.extract pos s.size = a at *
    rw [Lb.get_list, Lb.get_list, Lb.get_list, ByteArray.toList_eq, ByteArray.toList_eq, ByteArray.data_extract]
    have hl : a.data.toList.length = a.size := str_len a
    have hx : (a.data.extract 0 3).toList = a.data.toList.take 3 := by simp [List.extract_eq_take_drop]
    rw [hx]
    generalize a.data.toList = l at *
    rcases l with _ | ⟨x, _ | ⟨y, _ | ⟨z, t⟩⟩⟩
    · simp at hl; omega
    · simp at hl; omega
    · simp at hl; omega
    · simp only [h, decide_true, Bool.true_and, List.take, List.getD_cons_zero, List.getD_cons_succ]
      have e : ∀ (u : UInt8) (n : Nat), n < 256 → decide (u.toNat = n) = (u == UInt8.ofNat n) := by
        intro u n hn
        by_cases hh : u = UInt8.ofNat n
        · subst hh; simp; omega
        · have : ¬ u.toNat = n := by intro k; apply hh; rw [← k]; simp
          simp [hh, this]
      rw [e x 239 (by omega), e y 191 (by omega), e z 189 (by omega)]
      show (x == 239 && (y == 191 && (z == 189 && true))) = _
      simp [Bool.and_assoc]
  · simp [h]
theorem bad_pre (s : ByteArray) (pos : Nat) (h : (Utf8.decode s pos).1 = 65533) : Lb.isBad (Utf8.decode s pos) = !pre (s.extract pos s.size) ⟨#[239, 191, 189]⟩ := by
  rw [pre_fffd]
  rw [Lib.decode_at] at h ⊢
  exact Lb.bad_prefix _ _ _ _ _ (UInt8.toNat_lt _) h
theorem isBad_no (d : Nat × Nat) (h : ¬ d.1 = 65533) : Lb.isBad d = false := by simp [Lb.isBad, h]
theorem count_step {s : ByteArray} {f pos a b n m : Nat} (h : pos < s.size) (hb : s.size ≤ pos + f) (e1 : a + Lb.good s f pos = n) (e2 : b + Lb.bad s f pos = m) :
    ∃ g, s.size ≤ pos + (Utf8.decode s pos).2 + g ∧ (Lb.isBad (Utf8.decode s pos) = true → a + Lb.good s g (pos + (Utf8.decode s pos).2) = n ∧ b + 1 + Lb.bad s g (pos + (Utf8.decode s pos).2) = m) ∧ (Lb.isBad (Utf8.decode s pos) = false → a + 1 + Lb.good s g (pos + (Utf8.decode s pos).2) = n ∧ b + Lb.bad s g (pos + (Utf8.decode s pos).2) = m) := by
  cases f with
  | zero => omega
  | succ f =>
    have := Lb.width_pos s pos h
    refine ⟨f, by omega, ?_⟩
    unfold Lb.good Lb.bad at *
    rw [Lb.runes_step s f pos h, List.countP_cons] at e1 e2
    constructor
    · intro hb
      simp only [hb] at e1 e2
      simp at e1 e2
      omega
    · intro hb
      simp only [hb] at e1 e2
      simp at e1 e2
      omega
set_option maxHeartbeats 1600000 in
set_option maxRecDepth 100000 in
theorem words_any (s : ByteArray) (w : World) (hs : s.size ≤ maxLen) :
    Calls Tryz.prog 73 #[.string s] w fun e w' => e = .returned (.tuple #[.int .i64 (Lb.good s s.size 0 : Nat), .int .i64 (Lb.bad s s.size 0 : Nat)]) ∧ Below w.heap.size w w' := by
  unfold maxLen at hs
  obtain ⟨n, hn⟩ : ∃ n, Lb.good s s.size 0 = n := ⟨_, rfl⟩
  obtain ⟨m, hm⟩ : ∃ m, Lb.bad s s.size 0 = m := ⟨_, rfl⟩
  rw [hn, hm]
  have HN := hideIt hn
  have HM := hideIt hm
  clear hn hm
  go_enter Tryz.func73, Tryz.ntmps73
  go_wp2
  go_loopw [4, 5, 6, 7] (fun u v _ _ wr => ∃ pos f a b : Nat, wr = w.iter s pos ∧ u = .int .i64 a ∧ v = .int .i64 b ∧ a ≤ pos ∧ b ≤ pos ∧ s.size ≤ pos + f ∧ a + Lb.good s f pos = n ∧ b + Lb.bad s f pos = m) (fun _ _ _ _ wr => s.size - wr.iterPos w.heap.size)
  case atStart => exact ⟨0, s.size, 0, 0, rfl, rfl, rfl, by omega, by omega, by omega, by rw [HN.out]; omega, by rw [HM.out]; omega⟩
  case round =>
    obtain ⟨pos, f, a, b, rfl, rfl, rfl, ha, hb, hf, h1, h2⟩ := hrel
    by_cases hp : pos < s.size
    · obtain ⟨g, hg, heb, heg⟩ := count_step hp hf h1 h2
      have hw := Lb.width_pos s pos hp
      have hbp := bad_pre s pos
      have hbn := isBad_no (Utf8.decode s pos)
      have hnx : ∀ ty, (Instr.next (.pointer (some ⟨w.heap.size, 0, none⟩)) true ty).run Tryz.prog (w.iter s pos) = _ := fun ty => run_next_any w s pos ty hp
      obtain ⟨d, hd⟩ : ∃ d, Utf8.decode s pos = d := ⟨_, rfl⟩
      rw [hd] at hg heb heg hw hbp hbn
      simp only [hd] at hnx
      obtain ⟨x, k⟩ := d
      simp only at hg heb heg hw hnx hbp hbn
      have HP := hideIt (hasPrefix_any (s.extract pos s.size) ⟨#[239, 191, 189]⟩)
      have HEB := hideIt heb
      have HEG := hideIt heg
      clear hd heb heg hf h1 h2
      have b0 : (0 : Int) ≤ (pos : Int) := by omega
      have b1 : (pos : Int) ≤ (s.size : Int) := by omega
      have b2 : (a : Int) + 1 ≤ 9223372036854775807 := by omega
      have b3 : (b : Int) + 1 ≤ 9223372036854775807 := by omega
      by_cases hx : x = 65533
      · have c1 : ((x : Int) == 65533) = true := by simp; omega
        have hbb := hbp hx
        clear hbp hbn
        obtain ⟨y, hy⟩ : ∃ y, pre (s.extract pos s.size) ⟨#[239, 191, 189]⟩ = y := ⟨_, rfl⟩
        rw [hy] at HP hbb
        clear hy
        cases y
        · have HE := hideIt (HEB.out hbb)
          clear hbb HEB HEG
          go_wp2_with (first | (go_at_call 75; refine (HP.out _).mono ?_; rintro e wx ⟨rfl, hwx⟩; obtain rfl := hwx.symm))
          go_roundw
          case rel => exact ⟨pos + k, g, a, b + 1, rfl, rfl, by go_num, by omega, by omega, hg, HE.out.1, HE.out.2⟩
          case measure => simp; omega
        · have HE := hideIt (HEG.out hbb)
          clear hbb HEB HEG
          go_wp2_with (first | (go_at_call 75; refine (HP.out _).mono ?_; rintro e wx ⟨rfl, hwx⟩; obtain rfl := hwx.symm))
          go_roundw
          case rel => exact ⟨pos + k, g, a + 1, b, rfl, by go_num, rfl, by omega, by omega, hg, HE.out.1, HE.out.2⟩
          case measure => simp; omega
      · have c1 : ((x : Int) == 65533) = false := by simp; omega
        have HE := hideIt (HEG.out (hbn hx))
        clear hbp hbn HEB HEG
        go_wp2
        go_roundw
        case rel => exact ⟨pos + k, g, a + 1, b, rfl, by go_num, rfl, by omega, by omega, hg, HE.out.1, HE.out.2⟩
        case measure => simp; omega
    · have hnx : ∀ ty, (Instr.next (.pointer (some ⟨w.heap.size, 0, none⟩)) true ty).run Tryz.prog (w.iter s pos) = _ := fun ty => run_next_end w s pos ty hp
      have e1 : a = n := by rw [Lb.good, Lb.runes_end s f pos hp] at h1; simpa using h1
      have e2 : b = m := by rw [Lb.bad, Lb.runes_end s f pos hp] at h2; simpa using h2
      subst e1 e2
      clear h1 h2 HN HM
      go_wp2
      go_ret2
      exact ⟨rfl, below_iter _ _ _⟩
set_option maxHeartbeats 1600000 in
set_option maxRecDepth 100000 in
theorem standsIn_any (s p : ByteArray) (w : World) :
    Calls Tryz.prog 98 #[.string s, .string p] w fun e w' => e = .returned (.bool (pre s p && okRef (s.extract p.size s.size))) ∧ Below w.heap.size w w' := by
  have HC := hideIt (fun w => cutPrefix_any s p w)
  obtain ⟨y, hy⟩ : ∃ y, pre s p = y := ⟨_, rfl⟩
  rw [hy] at HC ⊢
  clear hy
  cases y
  · simp only [Bool.false_and]
    simp only [Bool.false_eq_true, if_false] at HC
    go_enter Tryz.func98, Tryz.ntmps98
    go_wp2_with (first | (go_at_call 76; refine (HC.out _).mono ?_; rintro e wx ⟨rfl, hwx⟩; obtain rfl := hwx.symm))
    go_ret
    exact ⟨rfl, Below.refl _ _⟩
  · simp only [Bool.true_and]
    simp only [if_true] at HC
    obtain ⟨o, ho⟩ : ∃ o, s.extract p.size s.size = o := ⟨_, rfl⟩
    rw [ho] at HC ⊢
    clear ho
    obtain ⟨e1, e2, _, _⟩ := seg_cmp o
    have HD : Hid (okRef o = (!(o.data.toList == []) && (!decide ((64 : Int) < (o.size : Int)) && (Lb.runes o).all (fun d => refI (d.1 : Int))))) := hideIt (by
      have := runes_ref o o.size 0 (by omega)
      rw [List.drop_zero] at this
      have e : decide ((64 : Int) < (o.size : Int)) = decide (64 < o.size) := by apply decide_eq_decide.2; omega
      rw [okRef, Lb.runes, this, str_len, e])
    obtain ⟨m, hm⟩ : ∃ m : Int, (o.size : Int) = m := ⟨_, rfl⟩
    rw [hm] at HD
    generalize hx1 : (o.data.toList == []) = x1 at *
    generalize hx4 : decide ((64 : Int) < m) = x4 at *
    clear hx1
    cases x1 <;> cases x4
    case false.false =>
      have HD' : Hid (okRef o = (Lb.runes o).all (fun d => refI (d.1 : Int))) := hideIt (by rw [HD.out]; simp)
      clear HD
      go_enter Tryz.func98, Tryz.ntmps98
      go_wp2_with (first | (go_at_call 76; refine (HC.out _).mono ?_; rintro e wx ⟨rfl, hwx⟩; obtain rfl := hwx.symm))
      go_loopw [8] (fun _ wr => ∃ pos f : Nat, wr = w.iter o pos ∧ o.size ≤ pos + f ∧ (Lb.runesF o f pos).all (fun d => refI (d.1 : Int)) = okRef o) (fun _ wr => o.size - wr.iterPos w.heap.size)
      case atStart => exact ⟨0, o.size, rfl, by omega, by rw [HD'.out]; rfl⟩
      case round =>
        obtain ⟨pos, f, rfl, hf, hr⟩ := hrel
        by_cases hp : pos < o.size
        · obtain ⟨g, hg, he⟩ := all_step hp hf hr
          have hw := Lb.width_pos o pos hp
          have hnx : ∀ ty, (Instr.next (.pointer (some ⟨w.heap.size, 0, none⟩)) true ty).run Tryz.prog (w.iter o pos) = _ := fun ty => run_next_any w o pos ty hp
          obtain ⟨d, hd⟩ : ∃ d, Utf8.decode o pos = d := ⟨_, rfl⟩
          rw [hd] at hg he hw
          simp only [hd] at hnx
          obtain ⟨x, k⟩ := d
          simp only at hg he hw hnx
          have HB := hideIt (ofRefs_any x)
          have HE := hideIt he
          clear hd he hr hf
          generalize refI (x : Int) = b at *
          cases b
          · go_wp2_with (first | (go_at_call 119; refine (HB.out _).mono ?_; rintro e wx ⟨rfl, hwx⟩; obtain rfl := hwx.symm))
            go_ret
            exact ⟨by rw [← HE.out]; rfl, below_iter _ _ _⟩
          · go_wp2_with (first | (go_at_call 119; refine (HB.out _).mono ?_; rintro e wx ⟨rfl, hwx⟩; obtain rfl := hwx.symm))
            go_roundw
            case rel => exact ⟨pos + k, g, rfl, hg, by simpa using HE.out⟩
            case measure => simp; omega
        · have hnx : ∀ ty, (Instr.next (.pointer (some ⟨w.heap.size, 0, none⟩)) true ty).run Tryz.prog (w.iter o pos) = _ := fun ty => run_next_end w o pos ty hp
          have HE := hideIt hr
          clear hr
          go_wp2
          go_ret
          exact ⟨by rw [← HE.out, Lb.runes_end o f pos hp]; rfl, below_iter _ _ _⟩
    all_goals
      have HD' : Hid (okRef o = false) := hideIt (by rw [HD.out]; simp)
      clear HD
      go_enter Tryz.func98, Tryz.ntmps98
      go_wp2_with (first | (go_at_call 76; refine (HC.out _).mono ?_; rintro e wx ⟨rfl, hwx⟩; obtain rfl := hwx.symm))
      go_ret
      exact ⟨by rw [HD'.out]; try rfl, Below.refl _ _⟩
def headS : ByteArray := ⟨#[104, 101, 97, 100, 115, 47]⟩
def headB (s : ByteArray) : Bool := pre s headS && okRef (s.extract 6 s.size)
theorem head_any (s : ByteArray) (w : World) : Calls Tryz.prog 97 #[.string s] w fun e w' => e = .returned (.bool (headB s)) ∧ Below w.heap.size w w' := by
  have H := hideIt (fun w => standsIn_any s headS w)
  have e : (pre s headS && okRef (s.extract headS.size s.size)) = headB s := rfl
  rw [e] at H
  clear e
  unfold headS at H
  go_enter Tryz.func97, Tryz.ntmps97
  go_wp2_with (first | (go_at_call 98; refine (H.out _).mono ?_; rintro e wx ⟨rfl, hb⟩))
  go_ret
  exact ⟨rfl, hb⟩
end Go.Proofs.YtmjffngpaoaflaaGreatDoor
namespace Go.Proofs.YtmjffngpaoaflaaGreatDoor
open Go.RowKit
def tagS : ByteArray := ⟨#[116, 97, 103, 115, 47]⟩
def tagB (s : ByteArray) : Bool := pre s tagS && okRef (s.extract 5 s.size)
set_option maxHeartbeats 400000 in
theorem ref_any (s : ByteArray) (w : World) : Calls Tryz.prog 79 #[.string s] w fun e w' => e = .returned (.bool (headB s || tagB s)) ∧ Below w.heap.size w w' := by
  have H := hideIt (fun w => standsIn_any s tagS w)
  have e : (pre s tagS && okRef (s.extract tagS.size s.size)) = tagB s := rfl
  rw [e] at H
  clear e
  unfold tagS at H
  have HH := hideIt (fun w => head_any s w)
  generalize headB s = a at *
  generalize tagB s = b at *
  cases a
  · go_enter Tryz.func79, Tryz.ntmps79
    go_wp2_with (first | (go_at_call 97; refine (HH.out _).mono ?_; rintro e w1 ⟨rfl, hb1⟩) | (go_at_call 98; refine (H.out _).mono ?_; rintro e w2 ⟨rfl, hb2⟩))
    go_ret
    exact ⟨rfl, below2 hb1 hb2⟩
  · go_enter Tryz.func79, Tryz.ntmps79
    go_wp2_with (first | (go_at_call 97; refine (HH.out _).mono ?_; rintro e w1 ⟨rfl, hb1⟩) | (go_at_call 98; refine (H.out _).mono ?_; rintro e w2 ⟨rfl, hb2⟩))
    go_ret
    exact ⟨rfl, hb1⟩
theorem okRef_bad (o : ByteArray) (h : o.data.toList.all (fun c => refI (c.toNat : Int)) = false) : okRef o = false := by rw [okRef, h]; simp
theorem okRef_long (o : ByteArray) (h : 64 < o.size) : okRef o = false := by rw [okRef, str_len]; simp [h]
theorem okRef_none (o : ByteArray) (h : o.size = 0) : okRef o = false := by
  have : o.data.toList = [] := List.length_eq_zero_iff.1 (by rw [str_len]; exact h)
  rw [okRef, this]; rfl
theorem okRef_good (o : ByteArray) (h0 : 0 < o.size) (h : ¬ 64 < o.size) (ha : o.data.toList.all (fun c => refI (c.toNat : Int)) = true) : okRef o = true := by
  rw [okRef]
  have hl := str_len o
  generalize o.data.toList = l at *
  cases l with
  | nil => simp at hl; omega
  | cons c t => rw [ha, hl]; simp; omega
theorem take_next (o : ByteArray) (k : Nat) (h : k < o.size) : (o.data.toList.take (k + 1)).all (fun c => refI (c.toNat : Int)) = ((o.data.toList.take k).all (fun c => refI (c.toNat : Int)) && refI ((o[k]).toNat : Int)) := by
  rw [List.take_add_one, at_list o k h, List.all_append]
  simp
theorem all_bad (o : ByteArray) (k : Nat) (h : k < o.size) (hf : refI ((o[k]).toNat : Int) = false) : o.data.toList.all (fun c => refI (c.toNat : Int)) = false := by
  have hl : k < o.data.toList.length := by rw [str_len]; exact h
  rw [List.all_eq_false]
  exact ⟨o[k], by have := at_list o k h; exact List.mem_of_getElem? this, by simp [hf]⟩
def hasH (s : ByteArray) : Bool := decide (6 < s.size) && ((s.extract 0 6).toList == [104, 101, 97, 100, 115, 47])
def hasT (s : ByteArray) : Bool := decide (5 < s.size) && ((s.extract 0 5).toList == [116, 97, 103, 115, 47])
/-- What the document's copy answers. -/
def refK (s : ByteArray) : Int := if hasH s = true then (if okRef (s.extract 6 s.size) = true then 1 else 0) else if hasT s = true then (if okRef (s.extract 5 s.size) = true then 2 else 0) else 0
theorem head_has (s : ByteArray) : headB s = (hasH s && okRef (s.extract 6 s.size)) := by
  unfold headB hasH pre
  have e1 : headS.size = 6 := rfl
  have e2 : headS.toList = [104, 101, 97, 100, 115, 47] := by rw [ByteArray.toList_eq]; rfl
  rw [e1, e2]
  by_cases h : s.size = 6
  · rw [okRef_none (s.extract 6 s.size) (by rw [ByteArray.size_extract]; omega)]; simp
  · have : decide (6 ≤ s.size) = decide (6 < s.size) := by apply decide_eq_decide.2; omega
    rw [this]
theorem tag_has (s : ByteArray) : tagB s = (hasT s && okRef (s.extract 5 s.size)) := by
  unfold tagB hasT pre
  have e1 : tagS.size = 5 := rfl
  have e2 : tagS.toList = [116, 97, 103, 115, 47] := by rw [ByteArray.toList_eq]; rfl
  rw [e1, e2]
  by_cases h : s.size = 5
  · rw [okRef_none (s.extract 5 s.size) (by rw [ByteArray.size_extract]; omega)]; simp
  · have : decide (5 ≤ s.size) = decide (5 < s.size) := by apply decide_eq_decide.2; omega
    rw [this]
theorem not_both (s : ByteArray) (h : hasH s = true) : ((s.extract 0 5).toList == [116, 97, 103, 115, 47]) = false := by
  unfold hasH at h
  simp only [Bool.and_eq_true, decide_eq_true_eq, beq_iff_eq] at h
  obtain ⟨h1, h2⟩ := h
  rw [ByteArray.toList_eq] at h2 ⊢
  have e : (s.extract 0 5).data.toList = ((s.extract 0 6).data.toList).take 5 := by
    rw [ByteArray.data_extract, ByteArray.data_extract]
    simp [List.extract_eq_take_drop, List.take_take]
  rw [e, h2]
  rfl
theorem both_no (s : ByteArray) (h : hasT s = true) : hasH s = false := by
  cases hh : hasH s with
  | false => rfl
  | true =>
    have := not_both s hh
    unfold hasT at h
    rw [this] at h
    simp at h
def IsZero (v : Value) : Prop := v = .int .i64 0
/-- The two answers agree. -/
theorem refK_says (s : ByteArray) : (headB s || tagB s) = decide (0 < refK s) ∧ headB s = (refK s == 1) := by
  rw [head_has, tag_has]
  unfold refK
  cases h1 : hasH s
  · cases h2 : hasT s
    · simp
    · cases okRef (s.extract 5 s.size) <;> simp
  · have h2 : hasT s = false := by
      cases h2 : hasT s with
      | false => rfl
      | true => rw [both_no s h2] at h1; cases h1
    rw [h2]
    cases okRef (s.extract 6 s.size) <;> simp
set_option maxHeartbeats 3200000 in
set_option maxRecDepth 100000 in
theorem refref_any (s : ByteArray) (w : World) (hs : s.size ≤ 1000000) :
    Calls Tryz.prog 80 #[.string s] w fun e w' => e = .returned (.int .i64 (refK s)) ∧ Below w.heap.size w w' := by
  obtain ⟨n, hn⟩ : ∃ n, s.size = n := ⟨_, rfl⟩
  have hni : (s.size : Int) = (n : Int) := by rw [hn]
  have hH : hasH s = (decide (6 < s.size) && ((s.extract 0 6).toList == [104, 101, 97, 100, 115, 47])) := rfl
  have hT : hasT s = (decide (5 < s.size) && ((s.extract 0 5).toList == [116, 97, 103, 115, 47])) := rfl
  have hNB := not_both s
  have hBN := both_no s
  have HR : Hid (refK s = (if hasH s = true then (if okRef (s.extract 6 s.size) = true then 1 else 0) else if hasT s = true then (if okRef (s.extract 5 s.size) = true then 2 else 0) else 0)) := rfl
  rw [hn] at hH hT
  generalize hasH s = A at *
  generalize hasT s = B at *
  cases A
  · cases B
    · have HR' : Hid (refK s = 0) := hideIt (by rw [HR.out]; simp)
      clear HR hNB hBN
      obtain ⟨x, hx⟩ : ∃ x, ((s.extract 0 6).toList == [104, 101, 97, 100, 115, 47]) = x := ⟨_, rfl⟩
      obtain ⟨y, hy⟩ : ∃ y, ((s.extract 0 5).toList == [116, 97, 103, 115, 47]) = y := ⟨_, rfl⟩
      rw [hx] at hH
      rw [hy] at hT
      by_cases h6 : 6 < n
      · have d6 : decide ((6 : Int) < (n : Int)) = true := by simp; omega
        have d5 : decide ((5 : Int) < (n : Int)) = true := by simp; omega
        have i6 : (6 : Int) ≤ (n : Int) := by omega
        have i5 : (5 : Int) ≤ (n : Int) := by omega
        rw [decide_eq_true h6, Bool.true_and] at hH
        rw [decide_eq_true (show 5 < n by omega), Bool.true_and] at hT
        subst hH hT
        go_enter Tryz.func80, Tryz.ntmps80
        go_wp2
        go_loop [5, 6] (fun i _ => IsZero i) (fun i _ => (intOf i).toNat)
        case atStart => exact rfl
        case round =>
          have hrel' : _ = Value.int .i64 0 := hrel
          clear hrel
          subst hrel'
          go_wp2
          go_ret
          exact ⟨by rw [HR'.out]; rfl, Below.refl _ _⟩
      · have d6 : decide ((6 : Int) < (n : Int)) = false := by simp; omega
        clear hH
        by_cases h5 : 5 < n
        · have d5 : decide ((5 : Int) < (n : Int)) = true := by simp; omega
          have i5 : (5 : Int) ≤ (n : Int) := by omega
          rw [decide_eq_true h5, Bool.true_and] at hT
          subst hT
          go_enter Tryz.func80, Tryz.ntmps80
          go_wp2
          go_loop [5, 6] (fun i _ => IsZero i) (fun i _ => (intOf i).toNat)
          case atStart => exact rfl
          case round =>
            have hrel' : _ = Value.int .i64 0 := hrel
            clear hrel
            subst hrel'
            go_wp2
            go_ret
            exact ⟨by rw [HR'.out]; rfl, Below.refl _ _⟩
        · have d5 : decide ((5 : Int) < (n : Int)) = false := by simp; omega
          clear hT
          go_enter Tryz.func80, Tryz.ntmps80
          go_wp2
          go_loop [5, 6] (fun i _ => IsZero i) (fun i _ => (intOf i).toNat)
          case atStart => exact rfl
          case round =>
            have hrel' : _ = Value.int .i64 0 := hrel
            clear hrel
            subst hrel'
            go_wp2
            go_ret
            exact ⟨by rw [HR'.out]; rfl, Below.refl _ _⟩
    · have hlt : 5 < n := by simp at hT; omega
      have e5 : ((s.extract 0 5).toList == [116, 97, 103, 115, 47]) = true := by rw [decide_eq_true hlt, Bool.true_and] at hT; exact hT.symm
      obtain ⟨x, hx⟩ : ∃ x, ((s.extract 0 6).toList == [104, 101, 97, 100, 115, 47]) = x := ⟨_, rfl⟩
      obtain ⟨u, hu⟩ : ∃ u, decide ((6 : Int) < (n : Int)) = u := ⟨_, rfl⟩
      have hux : u = false ∨ x = false := by
        have eu : decide (6 < n) = u := by rw [← hu]; apply decide_eq_decide.2; omega
        rw [hx, eu] at hH
        cases u
        · exact .inl rfl
        · cases x
          · exact .inr rfl
          · exact absurd hH (by decide)
      have HK : Hid (refK s = if okRef (s.extract 5 s.size) = true then 2 else 0) := hideIt (by rw [HR.out]; simp)
      clear HR hNB hBN hH hT
      have d5 : decide ((5 : Int) < (n : Int)) = true := by simp; omega
      have i6 : (5 : Int) ≤ (n : Int) := by omega
      obtain ⟨o, ho⟩ : ∃ o, s.extract 5 s.size = o := ⟨_, rfl⟩
      have hoz : o.size = n - 5 := by rw [← ho, ByteArray.size_extract]; omega
      rw [ho] at HK
      rw [hn] at ho
      obtain ⟨z, hz⟩ : ∃ z, o.size = z := ⟨_, rfl⟩
      have hzi : (o.size : Int) = (z : Int) := by rw [hz]
      have hz0 : 0 < z := by omega
      have hz1 : z ≤ 1000000 := by omega
      clear hoz
      cases u <;> cases x
      case true.true => rcases hux with h | h <;> cases h
      all_goals clear hux
      all_goals
        go_enter Tryz.func80, Tryz.ntmps80
        go_wp2
        go_quiet (fail)
        go_wp2
        go_loop [5, 6] (fun i _ => ∃ k : Nat, k ≤ z ∧ i = .int .i64 k ∧ (o.data.toList.take k).all (fun c => refI (c.toNat : Int)) = true) (fun i _ => z - (intOf i).toNat)
        case atStart => exact ⟨0, by omega, rfl, by simp⟩
        case round =>
          obtain ⟨k, hk, rfl, hall⟩ := hrel
          have HL := hideIt hall
          clear hall
          by_cases hlt : k < z
          · have d1 : decide ((k : Int) < (z : Int)) = true := by simp; omega
            have hks : k < o.size := by omega
            have i0 : (0 : Int) ≤ (k : Int) := by omega
            have i1 : (k : Int) < (z : Int) := by omega
            have i2 : (k : Int) ≤ 1000000 := by omega
            have HT := hideIt (take_next o k hks)
            have HX := hideIt (all_bad o k hks)
            obtain ⟨y, hy⟩ : ∃ y, (o[k]).toNat = y := ⟨_, rfl⟩
            rw [hy] at HT HX
            rcases cmp_cases (y : Int) with H | H | H | H | H | H | H
            all_goals (have HB := hideIt (refI_of H); obtain ⟨q1, q2, q3, q4, q5, q6⟩ := H)
            all_goals go_wp2
            all_goals first
              | (go_ret; exact ⟨by rw [HK.out, okRef_bad o (HX.out (by rw [HB.out]; rfl))]; rfl, ⟨rfl, rfl, rfl, Nat.le_refl _, fun _ _ => rfl⟩⟩)
              | (go_round
                 case rel => exact ⟨k + 1, by omega, by go_num, by rw [HT.out, HL.out, HB.out]; rfl⟩
                 case measure => simp [intOf]; omega)
          · have d1 : decide ((k : Int) < (z : Int)) = false := by simp; omega
            have HA : Hid (o.data.toList.all (fun c => refI (c.toNat : Int)) = true) := hideIt (by have := HL.out; rwa [List.take_of_length_le (by rw [str_len]; omega)] at this)
            by_cases h64 : 64 < z
            · have d2 : decide ((64 : Int) < (z : Int)) = true := by simp; omega
              go_wp2
              go_ret
              exact ⟨by rw [HK.out, okRef_long o (by omega)]; rfl, ⟨rfl, rfl, rfl, Nat.le_refl _, fun _ _ => rfl⟩⟩
            · have d2 : decide ((64 : Int) < (z : Int)) = false := by simp; omega
              go_wp2
              go_ret
              exact ⟨by rw [HK.out, okRef_good o (by omega) (by omega) HA.out]; rfl, ⟨rfl, rfl, rfl, Nat.le_refl _, fun _ _ => rfl⟩⟩
  · have hlt : 6 < n := by simp at hH; omega
    have hNB' := hNB rfl
    have e6 : ((s.extract 0 6).toList == [104, 101, 97, 100, 115, 47]) = true := by rw [decide_eq_true hlt, Bool.true_and] at hH; exact hH.symm
    have d6 : decide ((6 : Int) < (n : Int)) = true := by simp; omega
    have HK : Hid (refK s = if okRef (s.extract 6 s.size) = true then 1 else 0) := hideIt (by rw [HR.out]; simp)
    clear HR hNB hBN hH hT
    have d5 : decide ((5 : Int) < (n : Int)) = true := by simp; omega
    have i6 : (6 : Int) ≤ (n : Int) := by omega
    obtain ⟨o, ho⟩ : ∃ o, s.extract 6 s.size = o := ⟨_, rfl⟩
    have hoz : o.size = n - 6 := by rw [← ho, ByteArray.size_extract]; omega
    rw [ho] at HK
    rw [hn] at ho
    obtain ⟨z, hz⟩ : ∃ z, o.size = z := ⟨_, rfl⟩
    have hzi : (o.size : Int) = (z : Int) := by rw [hz]
    have hz0 : 0 < z := by omega
    have hz1 : z ≤ 1000000 := by omega
    clear hoz
    go_enter Tryz.func80, Tryz.ntmps80
    go_wp2
    go_quiet (fail)
    go_wp2
    go_loop [5, 6] (fun i _ => ∃ k : Nat, k ≤ z ∧ i = .int .i64 k ∧ (o.data.toList.take k).all (fun c => refI (c.toNat : Int)) = true) (fun i _ => z - (intOf i).toNat)
    case atStart => exact ⟨0, by omega, rfl, by simp⟩
    case round =>
      obtain ⟨k, hk, rfl, hall⟩ := hrel
      have HL := hideIt hall
      clear hall
      by_cases hlt : k < z
      · have d1 : decide ((k : Int) < (z : Int)) = true := by simp; omega
        have hks : k < o.size := by omega
        have i0 : (0 : Int) ≤ (k : Int) := by omega
        have i1 : (k : Int) < (z : Int) := by omega
        have i2 : (k : Int) ≤ 1000000 := by omega
        have HT := hideIt (take_next o k hks)
        have HX := hideIt (all_bad o k hks)
        obtain ⟨y, hy⟩ : ∃ y, (o[k]).toNat = y := ⟨_, rfl⟩
        rw [hy] at HT HX
        rcases cmp_cases (y : Int) with H | H | H | H | H | H | H
        all_goals (have HB := hideIt (refI_of H); obtain ⟨q1, q2, q3, q4, q5, q6⟩ := H)
        all_goals go_wp2
        all_goals first
          | (go_ret; exact ⟨by rw [HK.out, okRef_bad o (HX.out (by rw [HB.out]; rfl))]; rfl, ⟨rfl, rfl, rfl, Nat.le_refl _, fun _ _ => rfl⟩⟩)
          | (go_round
             case rel => exact ⟨k + 1, by omega, by go_num, by rw [HT.out, HL.out, HB.out]; rfl⟩
             case measure => simp [intOf]; omega)
      · have d1 : decide ((k : Int) < (z : Int)) = false := by simp; omega
        have HA : Hid (o.data.toList.all (fun c => refI (c.toNat : Int)) = true) := hideIt (by have := HL.out; rwa [List.take_of_length_le (by rw [str_len]; omega)] at this)
        by_cases h64 : 64 < z
        · have d2 : decide ((64 : Int) < (z : Int)) = true := by simp; omega
          go_wp2
          go_ret
          exact ⟨by rw [HK.out, okRef_long o (by omega)]; rfl, ⟨rfl, rfl, rfl, Nat.le_refl _, fun _ _ => rfl⟩⟩
        · have d2 : decide ((64 : Int) < (z : Int)) = false := by simp; omega
          go_wp2
          go_ret
          exact ⟨by rw [HK.out, okRef_good o (by omega) (by omega) HA.out]; rfl, ⟨rfl, rfl, rfl, Nat.le_refl _, fun _ _ => rfl⟩⟩
end Go.Proofs.YtmjffngpaoaflaaGreatDoor
namespace Go.Proofs.YtmjffngpaoaflaaGreatDoor
open Go.RowKit
namespace Lb
def accV (s : ByteArray) (v : Int) : Nat → Int
  | 0 => v
  | k + 1 => accV s v k * 64 + ((s.get! (k + 1)).toNat : Int) - 128
def fstS (s : ByteArray) : Int × Nat := fstN s.size (s.get! 0).toNat (s.get! 1).toNat (s.get! 2).toNat (s.get! 3).toNat
/-- The classes of a first byte that has others behind it: how many, from which number on, what is taken away. -/
def Cls (b n : Nat) (least sub : Int) : Prop := (194 ≤ b ∧ b < 224 ∧ n = 1 ∧ least = 128 ∧ sub = 192) ∨ (224 ≤ b ∧ b < 240 ∧ n = 2 ∧ least = 2048 ∧ sub = 224) ∨ (240 ≤ b ∧ b < 245 ∧ n = 3 ∧ least = 65536 ∧ sub = 240)
theorem fst_low (s : ByteArray) (h : (s.get! 0).toNat < 128) : fstS s = (((s.get! 0).toNat : Int), 1) := by rw [fstS, fstN, if_pos h]
theorem fst_none (s : ByteArray) (h : (128 ≤ (s.get! 0).toNat ∧ (s.get! 0).toNat < 194) ∨ 245 ≤ (s.get! 0).toNat) : fstS s = (-1, 1) := by
  rw [fstS, fstN, if_neg (by omega), if_neg (by omega), if_neg (by omega), if_neg (by omega)]
theorem fst_short {s : ByteArray} {n : Nat} {least sub : Int} (c : Cls (s.get! 0).toNat n least sub) (h : s.size ≤ n) : fstS s = (-1, 1) := by
  rw [fstS]
  rcases c with ⟨h1, h2, rfl, rfl, rfl⟩ | ⟨h1, h2, rfl, rfl, rfl⟩ | ⟨h1, h2, rfl, rfl, rfl⟩
  · rw [fstN, if_neg (by omega), if_pos (by omega), if_pos h]
  · rw [fstN, if_neg (by omega), if_neg (by omega), if_pos (by omega), if_pos h]
  · rw [fstN, if_neg (by omega), if_neg (by omega), if_neg (by omega), if_pos (by omega), if_pos h]
theorem fst_stray {s : ByteArray} {n : Nat} {least sub : Int} (c : Cls (s.get! 0).toNat n least sub) (h : n < s.size) (k : Nat) (hk : k < n) (hc : cont (s.get! (k + 1)).toNat = false) : fstS s = (-1, 1) := by
  rw [fstS]
  rcases c with ⟨h1, h2, rfl, rfl, rfl⟩ | ⟨h1, h2, rfl, rfl, rfl⟩ | ⟨h1, h2, rfl, rfl, rfl⟩
  · obtain rfl : k = 0 := by omega
    rw [fstN, if_neg (by omega), if_pos (by omega), if_neg (by omega), if_pos hc]
  · rw [fstN, if_neg (by omega), if_neg (by omega), if_pos (by omega), if_neg (by omega)]
    have : k = 0 ∨ k = 1 := by omega
    rcases this with rfl | rfl
    · rw [if_pos hc]
    · rw [if_pos hc]; split <;> rfl
  · rw [fstN, if_neg (by omega), if_neg (by omega), if_neg (by omega), if_pos (by omega), if_neg (by omega)]
    have : k = 0 ∨ k = 1 ∨ k = 2 := by omega
    rcases this with rfl | rfl | rfl
    · rw [if_pos hc]
    · rw [if_pos hc]; split <;> rfl
    · rw [if_pos hc]; repeat' split
      all_goals rfl
theorem fst_val {s : ByteArray} {n : Nat} {least sub : Int} (c : Cls (s.get! 0).toNat n least sub) (h : n < s.size) (hc : ∀ k, k < n → cont (s.get! (k + 1)).toNat = true) : fstS s = valC (accV s (((s.get! 0).toNat : Int) - sub) n) least (n + 1) := by
  rw [fstS]
  rcases c with ⟨h1, h2, rfl, rfl, rfl⟩ | ⟨h1, h2, rfl, rfl, rfl⟩ | ⟨h1, h2, rfl, rfl, rfl⟩
  · rw [fstN, if_neg (by omega), if_pos (by omega), if_neg (by omega), if_neg (by rw [hc 0 (by omega)]; simp)]
    rfl
  · rw [fstN, if_neg (by omega), if_neg (by omega), if_pos (by omega), if_neg (by omega), if_neg (by rw [hc 0 (by omega)]; simp), if_neg (by rw [hc 1 (by omega)]; simp)]
    rfl
  · rw [fstN, if_neg (by omega), if_neg (by omega), if_neg (by omega), if_pos (by omega), if_neg (by omega), if_neg (by rw [hc 0 (by omega)]; simp), if_neg (by rw [hc 1 (by omega)]; simp), if_neg (by rw [hc 2 (by omega)]; simp)]
    rfl
theorem accV_next (s : ByteArray) (v : Int) (i : Nat) (h : 1 ≤ i) : accV s v i = accV s v (i - 1) * 64 + ((s.get! i).toNat : Int) - 128 := by
  cases i with
  | zero => omega
  | succ k => rfl
theorem accV_bound (s : ByteArray) (v : Int) (h0 : 0 ≤ v) (h1 : v ≤ 31) : ∀ n, (∀ k, k < n → cont (s.get! (k + 1)).toNat = true) → 0 ≤ accV s v n ∧ accV s v n + 1 ≤ 32 * 64 ^ n := by
  intro n
  induction n with
  | zero => intro _; simp [accV]; omega
  | succ n ih =>
    intro hc
    obtain ⟨a, b⟩ := ih (fun k hk => hc k (by omega))
    have := hc n (by omega)
    simp [cont] at this
    rw [accV, Int.pow_succ]
    generalize (64 : Int) ^ n = q at *
    omega
end Lb
/-- How a first byte compares with the classes' bounds. -/
structure FstC (x : Int) (a b c d e f g : Bool) : Prop where
  a1 : decide (x < (128 : Int)) = a
  b1 : decide ((194 : Int) ≤ x) = b
  c1 : decide (x < (224 : Int)) = c
  d1 : decide ((224 : Int) ≤ x) = d
  e1 : decide (x < (240 : Int)) = e
  f1 : decide ((240 : Int) ≤ x) = f
  g1 : decide (x < (245 : Int)) = g
theorem fstC_mk (x : Int) (a b c d e f g : Bool) (h : decide (x < (128 : Int)) = a ∧ decide ((194 : Int) ≤ x) = b ∧ decide (x < (224 : Int)) = c ∧ decide ((224 : Int) ≤ x) = d ∧ decide (x < (240 : Int)) = e ∧ decide ((240 : Int) ≤ x) = f ∧ decide (x < (245 : Int)) = g) : FstC x a b c d e f g :=
  ⟨h.1, h.2.1, h.2.2.1, h.2.2.2.1, h.2.2.2.2.1, h.2.2.2.2.2.1, h.2.2.2.2.2.2⟩
theorem get_idx (s : ByteArray) (k : Nat) (h : k < s.size) : s.get! k = s[k] := get_at s k h
set_option maxHeartbeats 1600000 in
set_option maxRecDepth 100000 in
theorem first_low (s : ByteArray) (w : World) (h0 : 0 < s.size) (h : (s.get! 0).toNat < 128 ∨ (128 ≤ (s.get! 0).toNat ∧ (s.get! 0).toNat < 194) ∨ 245 ≤ (s.get! 0).toNat) :
    Calls Tryz.prog 88 #[.string s] w fun e w' => e = .returned (.tuple #[.int .i64 (Lb.fstS s).1, .int .i64 ((Lb.fstS s).2 : Nat)]) ∧ w' = w := by
  have g0 := get_idx s 0 h0
  have hlt : (s[0]).toNat < 256 := UInt8.toNat_lt _
  have low := Lb.fst_low s
  have none := Lb.fst_none s
  rw [g0] at low none h
  obtain ⟨x, hx⟩ : ∃ x, (s[0]).toNat = x := ⟨_, rfl⟩
  rw [hx] at low none h hlt
  have b1 : (x : Int) < 256 := by omega
  rcases h with h | h | h
  · rw [low h]
    obtain ⟨q1, q2, q3, q4, q5, q6, q7⟩ : FstC (x : Int) true false true false true false true := fstC_mk _ _ _ _ _ _ _ _ (by simp; omega)
    clear low none g0
    go_enter Tryz.func88, Tryz.ntmps88
    go_wp2
    go_ret2
    exact ⟨rfl, rfl⟩
  · rw [none (.inl h)]
    obtain ⟨q1, q2, q3, q4, q5, q6, q7⟩ : FstC (x : Int) false false true false true false true := fstC_mk _ _ _ _ _ _ _ _ (by simp; omega)
    clear low none g0
    go_enter Tryz.func88, Tryz.ntmps88
    go_wp2
    go_ret2
    exact ⟨rfl, rfl⟩
  · rw [none (.inr h)]
    obtain ⟨q1, q2, q3, q4, q5, q6, q7⟩ : FstC (x : Int) false true false true false true false := fstC_mk _ _ _ _ _ _ _ _ (by simp; omega)
    clear low none g0
    go_enter Tryz.func88, Tryz.ntmps88
    go_wp2
    go_ret2
    exact ⟨rfl, rfl⟩
theorem valC_of (v least : Int) (n : Nat) {a b c d : Bool} (h1 : decide (v < least) = a) (h2 : decide ((55296 : Int) ≤ v) = b) (h3 : decide (v < (57344 : Int)) = c) (h4 : decide ((1114111 : Int) < v) = d) : Lb.valC v least n = if (a || (b && c) || d) = true then (-1, 1) else (v, n) := by
  subst h1 h2 h3 h4
  unfold Lb.valC
  simp only [Bool.or_eq_true, Bool.and_eq_true, decide_eq_true_eq, or_assoc]
theorem cont_of (x : Nat) {a b : Bool} (h1 : decide ((x : Int) < (128 : Int)) = a) (h2 : decide ((191 : Int) < (x : Int)) = b) : Lb.cont x = (!a && !b) := by
  subst h1 h2
  unfold Lb.cont
  have e1 : decide (128 ≤ x) = !decide ((x : Int) < 128) := by rw [← decide_not]; apply decide_eq_decide.2; omega
  have e2 : decide (x ≤ 191) = !decide ((191 : Int) < (x : Int)) := by rw [← decide_not]; apply decide_eq_decide.2; omega
  rw [e1, e2]
set_option maxHeartbeats 3200000 in
set_option maxRecDepth 100000 in
theorem first_cls1 (s : ByteArray) (w : World) (hs : s.size ≤ maxLen) (h0 : 0 < s.size) (hb : 194 ≤ (s.get! 0).toNat ∧ (s.get! 0).toNat < 224) :
    Calls Tryz.prog 88 #[.string s] w fun e w' => e = .returned (.tuple #[.int .i64 (Lb.fstS s).1, .int .i64 ((Lb.fstS s).2 : Nat)]) ∧ w' = w := by
  unfold maxLen at hs
  have hc : Lb.Cls (s.get! 0).toNat 1 128 192 := by unfold Lb.Cls; omega
  have HS := hideIt (fun h => Lb.fst_short hc h)
  have HT := hideIt (fun h => Lb.fst_stray hc h)
  have HV := hideIt (fun h => Lb.fst_val hc h)
  have g0 := get_idx s 0 h0
  obtain ⟨x, hx⟩ : ∃ x, (s[0]).toNat = x := ⟨_, rfl⟩
  rw [g0, hx] at hb HV
  obtain ⟨c1, c2⟩ := hb
  clear g0 hc
  obtain ⟨z, hz⟩ : ∃ z, s.size = z := ⟨_, rfl⟩
  have hzi : (s.size : Int) = (z : Int) := by rw [hz]
  obtain ⟨q1, q2, q3, q4, q5, q6, q7⟩ : FstC (x : Int) false true true false true false true := fstC_mk _ _ _ _ _ _ _ _ (by simp; omega)
  have b1 : (x : Int) < 256 := by omega
  have b2 : (194 : Int) ≤ (x : Int) := by omega
  by_cases hl : z ≤ 1
  · have d1 : decide ((z : Int) ≤ 1) = true := by simp; omega
    have HF := hideIt (HS.out (by omega))
    clear HS HT HV
    go_enter Tryz.func88, Tryz.ntmps88
    go_wp2
    go_ret2
    exact ⟨by rw [HF.out]; rfl, rfl⟩
  · have d1 : decide ((z : Int) ≤ 1) = false := by simp; omega
    have HT := hideIt (HT.out (by omega))
    have HV := hideIt (HV.out (by omega))
    have HB := hideIt (Lb.accV_bound s ((x : Int) - 192) (by omega) (by omega))
    clear HS
    go_enter Tryz.func88, Tryz.ntmps88
    go_wp2
    go_loop [7, 8] (fun v i => ∃ k : Nat, 1 ≤ k ∧ k ≤ 1 + 1 ∧ i = .int .i64 k ∧ v = .int .i64 (Lb.accV s ((x : Int) - 192) (k - 1)) ∧ ∀ j, j < k - 1 → Lb.cont (s.get! (j + 1)).toNat = true) (fun _ i => 1 + 1 - (intOf i).toNat)
    case atStart => exact ⟨1, by omega, by omega, rfl, rfl, fun j hj => by omega⟩
    case round =>
      obtain ⟨k, hk1, hk2, rfl, rfl, hall⟩ := hrel
      obtain ⟨r1, r2⟩ := HB.out (k - 1) hall
      have HA := hideIt (Lb.accV_next s ((x : Int) - 192) k hk1)
      have HL := hideIt hall
      clear hall
      obtain ⟨V, hV⟩ : ∃ V, Lb.accV s ((x : Int) - 192) (k - 1) = V := ⟨_, rfl⟩
      rw [hV] at HA r1 r2
      by_cases hkn : k ≤ 1
      · have d2 : (k : Int) ≤ 1 := by omega
        have d3 : decide ((k : Int) ≤ 1) = true := by simp; omega
        have hks : k < s.size := by omega
        have i1 : (k : Int) < (z : Int) := by omega
        have i0 : (0 : Int) ≤ (k : Int) := by omega
        have gk := get_idx s k hks
        obtain ⟨y, hy⟩ : ∃ y, (s[k]).toNat = y := ⟨_, rfl⟩
        rw [gk, hy] at HA
        have HC := hideIt (cont_of y rfl rfl)
        have y0 : (y : Int) < 256 := by have : (s[k]).toNat < 256 := UInt8.toNat_lt _; omega
        have v2 : V ≤ 200000 := by
          have : (64 : Int) ^ (k - 1) ≤ 64 ^ 2 := by
            have : k - 1 = 0 ∨ k - 1 = 1 ∨ k - 1 = 2 := by omega
            rcases this with e | e | e <;> rw [e] <;> decide
          omega
        have HG := hideIt (show Lb.cont (s.get! (k - 1 + 1)).toNat = Lb.cont y by rw [show k - 1 + 1 = k by omega, gk, hy])
        clear r2 gk
        by_cases y1 : y < 128
        · have y2 : decide ((y : Int) < 128) = true := by simp; omega
          have HF := hideIt (HT.out (k - 1) (by omega) (by rw [HG.out, HC.out, y2]; rfl))
          rw [hV]
          clear HT HV HB HC HG
          go_wp2
          go_ret2
          exact ⟨by rw [HF.out]; rfl, rfl⟩
        · have y2 : decide ((y : Int) < 128) = false := by simp; omega
          by_cases y3 : 191 < y
          · have y4 : decide ((191 : Int) < (y : Int)) = true := by simp; omega
            have HF := hideIt (HT.out (k - 1) (by omega) (by rw [HG.out, HC.out, y2, y4]; rfl))
            rw [hV]
            clear HT HV HB HC HG
            go_wp2
            go_ret2
            exact ⟨by rw [HF.out]; rfl, rfl⟩
          · have y4 : decide ((191 : Int) < (y : Int)) = false := by simp; omega
            have HF := hideIt (show Lb.cont y = true by rw [HC.out, y2, y4]; rfl)
            rw [hV]
            go_wp2
            go_round
            case rel =>
              refine ⟨k + 1, by omega, by omega, by go_num, ?_, ?_⟩
              · rw [Nat.add_sub_cancel, HA.out]; try rfl
              · intro j hj
                by_cases e : j = k - 1
                · rw [e, HG.out, HF.out]
                · exact HL.out j (by omega)
            case measure => simp [intOf]; omega
      · have d2 : ¬ (k : Int) ≤ 1 := by omega
        have d3 : decide ((k : Int) ≤ 1) = false := by simp; omega
        obtain rfl : k = 1 + 1 := by omega
        have HF := hideIt (HV.out (fun j hj => HL.out j (by omega)))
        rw [show 1 + 1 - 1 = 1 from rfl] at hV
        rw [hV] at HF
        have HW := hideIt (valC_of V 128 (1 + 1) rfl rfl rfl rfl)
        rw [show 1 + 1 - 1 = 1 from rfl, hV]
        clear hV HA HL HT HV HB r2
        by_cases u1 : V < 128
        · have u2 : decide (V < 128) = true := by simpa using u1
          rw [u2] at HW
          go_wp2
          go_ret2
          exact ⟨by rw [HF.out, HW.out]; rfl, rfl⟩
        · have u2 : decide (V < 128) = false := by simpa using u1
          rw [u2] at HW
          by_cases u3 : 55296 ≤ V
          · have u4 : decide ((55296 : Int) ≤ V) = true := by simpa using u3
            rw [u4] at HW
            by_cases u5 : V < 57344
            · have u6 : decide (V < (57344 : Int)) = true := by simpa using u5
              rw [u6] at HW
              go_wp2
              go_ret2
              exact ⟨by rw [HF.out, HW.out]; rfl, rfl⟩
            · have u6 : decide (V < (57344 : Int)) = false := by simpa using u5
              rw [u6] at HW
              obtain ⟨b, hb⟩ : ∃ b, decide ((1114111 : Int) < V) = b := ⟨_, rfl⟩
              rw [hb] at HW
              cases b
              all_goals
                go_wp2
                go_ret2
                exact ⟨by rw [HF.out, HW.out]; rfl, rfl⟩
          · have u4 : decide ((55296 : Int) ≤ V) = false := by simpa using u3
            rw [u4] at HW
            have u7 : decide ((1114111 : Int) < V) = false := by simp; omega
            rw [u7] at HW
            go_wp2
            go_ret2
            exact ⟨by rw [HF.out, HW.out]; rfl, rfl⟩
set_option maxHeartbeats 3200000 in
set_option maxRecDepth 100000 in
theorem first_cls2 (s : ByteArray) (w : World) (hs : s.size ≤ maxLen) (h0 : 0 < s.size) (hb : 224 ≤ (s.get! 0).toNat ∧ (s.get! 0).toNat < 240) :
    Calls Tryz.prog 88 #[.string s] w fun e w' => e = .returned (.tuple #[.int .i64 (Lb.fstS s).1, .int .i64 ((Lb.fstS s).2 : Nat)]) ∧ w' = w := by
  unfold maxLen at hs
  have hc : Lb.Cls (s.get! 0).toNat 2 2048 224 := by unfold Lb.Cls; omega
  have HS := hideIt (fun h => Lb.fst_short hc h)
  have HT := hideIt (fun h => Lb.fst_stray hc h)
  have HV := hideIt (fun h => Lb.fst_val hc h)
  have g0 := get_idx s 0 h0
  obtain ⟨x, hx⟩ : ∃ x, (s[0]).toNat = x := ⟨_, rfl⟩
  rw [g0, hx] at hb HV
  obtain ⟨c1, c2⟩ := hb
  clear g0 hc
  obtain ⟨z, hz⟩ : ∃ z, s.size = z := ⟨_, rfl⟩
  have hzi : (s.size : Int) = (z : Int) := by rw [hz]
  obtain ⟨q1, q2, q3, q4, q5, q6, q7⟩ : FstC (x : Int) false true false true true false true := fstC_mk _ _ _ _ _ _ _ _ (by simp; omega)
  have b1 : (x : Int) < 256 := by omega
  have b2 : (224 : Int) ≤ (x : Int) := by omega
  by_cases hl : z ≤ 2
  · have d1 : decide ((z : Int) ≤ 2) = true := by simp; omega
    have HF := hideIt (HS.out (by omega))
    clear HS HT HV
    go_enter Tryz.func88, Tryz.ntmps88
    go_wp2
    go_ret2
    exact ⟨by rw [HF.out]; rfl, rfl⟩
  · have d1 : decide ((z : Int) ≤ 2) = false := by simp; omega
    have HT := hideIt (HT.out (by omega))
    have HV := hideIt (HV.out (by omega))
    have HB := hideIt (Lb.accV_bound s ((x : Int) - 224) (by omega) (by omega))
    clear HS
    go_enter Tryz.func88, Tryz.ntmps88
    go_wp2
    go_loop [7, 8] (fun v i => ∃ k : Nat, 1 ≤ k ∧ k ≤ 2 + 1 ∧ i = .int .i64 k ∧ v = .int .i64 (Lb.accV s ((x : Int) - 224) (k - 1)) ∧ ∀ j, j < k - 1 → Lb.cont (s.get! (j + 1)).toNat = true) (fun _ i => 2 + 1 - (intOf i).toNat)
    case atStart => exact ⟨1, by omega, by omega, rfl, rfl, fun j hj => by omega⟩
    case round =>
      obtain ⟨k, hk1, hk2, rfl, rfl, hall⟩ := hrel
      obtain ⟨r1, r2⟩ := HB.out (k - 1) hall
      have HA := hideIt (Lb.accV_next s ((x : Int) - 224) k hk1)
      have HL := hideIt hall
      clear hall
      obtain ⟨V, hV⟩ : ∃ V, Lb.accV s ((x : Int) - 224) (k - 1) = V := ⟨_, rfl⟩
      rw [hV] at HA r1 r2
      by_cases hkn : k ≤ 2
      · have d2 : (k : Int) ≤ 2 := by omega
        have d3 : decide ((k : Int) ≤ 2) = true := by simp; omega
        have hks : k < s.size := by omega
        have i1 : (k : Int) < (z : Int) := by omega
        have i0 : (0 : Int) ≤ (k : Int) := by omega
        have gk := get_idx s k hks
        obtain ⟨y, hy⟩ : ∃ y, (s[k]).toNat = y := ⟨_, rfl⟩
        rw [gk, hy] at HA
        have HC := hideIt (cont_of y rfl rfl)
        have y0 : (y : Int) < 256 := by have : (s[k]).toNat < 256 := UInt8.toNat_lt _; omega
        have v2 : V ≤ 200000 := by
          have : (64 : Int) ^ (k - 1) ≤ 64 ^ 2 := by
            have : k - 1 = 0 ∨ k - 1 = 1 ∨ k - 1 = 2 := by omega
            rcases this with e | e | e <;> rw [e] <;> decide
          omega
        have HG := hideIt (show Lb.cont (s.get! (k - 1 + 1)).toNat = Lb.cont y by rw [show k - 1 + 1 = k by omega, gk, hy])
        clear r2 gk
        by_cases y1 : y < 128
        · have y2 : decide ((y : Int) < 128) = true := by simp; omega
          have HF := hideIt (HT.out (k - 1) (by omega) (by rw [HG.out, HC.out, y2]; rfl))
          rw [hV]
          clear HT HV HB HC HG
          go_wp2
          go_ret2
          exact ⟨by rw [HF.out]; rfl, rfl⟩
        · have y2 : decide ((y : Int) < 128) = false := by simp; omega
          by_cases y3 : 191 < y
          · have y4 : decide ((191 : Int) < (y : Int)) = true := by simp; omega
            have HF := hideIt (HT.out (k - 1) (by omega) (by rw [HG.out, HC.out, y2, y4]; rfl))
            rw [hV]
            clear HT HV HB HC HG
            go_wp2
            go_ret2
            exact ⟨by rw [HF.out]; rfl, rfl⟩
          · have y4 : decide ((191 : Int) < (y : Int)) = false := by simp; omega
            have HF := hideIt (show Lb.cont y = true by rw [HC.out, y2, y4]; rfl)
            rw [hV]
            go_wp2
            go_round
            case rel =>
              refine ⟨k + 1, by omega, by omega, by go_num, ?_, ?_⟩
              · rw [Nat.add_sub_cancel, HA.out]; try rfl
              · intro j hj
                by_cases e : j = k - 1
                · rw [e, HG.out, HF.out]
                · exact HL.out j (by omega)
            case measure => simp [intOf]; omega
      · have d2 : ¬ (k : Int) ≤ 2 := by omega
        have d3 : decide ((k : Int) ≤ 2) = false := by simp; omega
        obtain rfl : k = 2 + 1 := by omega
        have HF := hideIt (HV.out (fun j hj => HL.out j (by omega)))
        rw [show 2 + 1 - 1 = 2 from rfl] at hV
        rw [hV] at HF
        have HW := hideIt (valC_of V 2048 (2 + 1) rfl rfl rfl rfl)
        rw [show 2 + 1 - 1 = 2 from rfl, hV]
        clear hV HA HL HT HV HB r2
        by_cases u1 : V < 2048
        · have u2 : decide (V < 2048) = true := by simpa using u1
          rw [u2] at HW
          go_wp2
          go_ret2
          exact ⟨by rw [HF.out, HW.out]; rfl, rfl⟩
        · have u2 : decide (V < 2048) = false := by simpa using u1
          rw [u2] at HW
          by_cases u3 : 55296 ≤ V
          · have u4 : decide ((55296 : Int) ≤ V) = true := by simpa using u3
            rw [u4] at HW
            by_cases u5 : V < 57344
            · have u6 : decide (V < (57344 : Int)) = true := by simpa using u5
              rw [u6] at HW
              go_wp2
              go_ret2
              exact ⟨by rw [HF.out, HW.out]; rfl, rfl⟩
            · have u6 : decide (V < (57344 : Int)) = false := by simpa using u5
              rw [u6] at HW
              obtain ⟨b, hb⟩ : ∃ b, decide ((1114111 : Int) < V) = b := ⟨_, rfl⟩
              rw [hb] at HW
              cases b
              all_goals
                go_wp2
                go_ret2
                exact ⟨by rw [HF.out, HW.out]; rfl, rfl⟩
          · have u4 : decide ((55296 : Int) ≤ V) = false := by simpa using u3
            rw [u4] at HW
            have u7 : decide ((1114111 : Int) < V) = false := by simp; omega
            rw [u7] at HW
            go_wp2
            go_ret2
            exact ⟨by rw [HF.out, HW.out]; rfl, rfl⟩
set_option maxHeartbeats 3200000 in
set_option maxRecDepth 100000 in
theorem first_cls3 (s : ByteArray) (w : World) (hs : s.size ≤ maxLen) (h0 : 0 < s.size) (hb : 240 ≤ (s.get! 0).toNat ∧ (s.get! 0).toNat < 245) :
    Calls Tryz.prog 88 #[.string s] w fun e w' => e = .returned (.tuple #[.int .i64 (Lb.fstS s).1, .int .i64 ((Lb.fstS s).2 : Nat)]) ∧ w' = w := by
  unfold maxLen at hs
  have hc : Lb.Cls (s.get! 0).toNat 3 65536 240 := by unfold Lb.Cls; omega
  have HS := hideIt (fun h => Lb.fst_short hc h)
  have HT := hideIt (fun h => Lb.fst_stray hc h)
  have HV := hideIt (fun h => Lb.fst_val hc h)
  have g0 := get_idx s 0 h0
  obtain ⟨x, hx⟩ : ∃ x, (s[0]).toNat = x := ⟨_, rfl⟩
  rw [g0, hx] at hb HV
  obtain ⟨c1, c2⟩ := hb
  clear g0 hc
  obtain ⟨z, hz⟩ : ∃ z, s.size = z := ⟨_, rfl⟩
  have hzi : (s.size : Int) = (z : Int) := by rw [hz]
  obtain ⟨q1, q2, q3, q4, q5, q6, q7⟩ : FstC (x : Int) false true false true false true true := fstC_mk _ _ _ _ _ _ _ _ (by simp; omega)
  have b1 : (x : Int) < 256 := by omega
  have b2 : (240 : Int) ≤ (x : Int) := by omega
  by_cases hl : z ≤ 3
  · have d1 : decide ((z : Int) ≤ 3) = true := by simp; omega
    have HF := hideIt (HS.out (by omega))
    clear HS HT HV
    go_enter Tryz.func88, Tryz.ntmps88
    go_wp2
    go_ret2
    exact ⟨by rw [HF.out]; rfl, rfl⟩
  · have d1 : decide ((z : Int) ≤ 3) = false := by simp; omega
    have HT := hideIt (HT.out (by omega))
    have HV := hideIt (HV.out (by omega))
    have HB := hideIt (Lb.accV_bound s ((x : Int) - 240) (by omega) (by omega))
    clear HS
    go_enter Tryz.func88, Tryz.ntmps88
    go_wp2
    go_loop [7, 8] (fun v i => ∃ k : Nat, 1 ≤ k ∧ k ≤ 3 + 1 ∧ i = .int .i64 k ∧ v = .int .i64 (Lb.accV s ((x : Int) - 240) (k - 1)) ∧ ∀ j, j < k - 1 → Lb.cont (s.get! (j + 1)).toNat = true) (fun _ i => 3 + 1 - (intOf i).toNat)
    case atStart => exact ⟨1, by omega, by omega, rfl, rfl, fun j hj => by omega⟩
    case round =>
      obtain ⟨k, hk1, hk2, rfl, rfl, hall⟩ := hrel
      obtain ⟨r1, r2⟩ := HB.out (k - 1) hall
      have HA := hideIt (Lb.accV_next s ((x : Int) - 240) k hk1)
      have HL := hideIt hall
      clear hall
      obtain ⟨V, hV⟩ : ∃ V, Lb.accV s ((x : Int) - 240) (k - 1) = V := ⟨_, rfl⟩
      rw [hV] at HA r1 r2
      by_cases hkn : k ≤ 3
      · have d2 : (k : Int) ≤ 3 := by omega
        have d3 : decide ((k : Int) ≤ 3) = true := by simp; omega
        have hks : k < s.size := by omega
        have i1 : (k : Int) < (z : Int) := by omega
        have i0 : (0 : Int) ≤ (k : Int) := by omega
        have gk := get_idx s k hks
        obtain ⟨y, hy⟩ : ∃ y, (s[k]).toNat = y := ⟨_, rfl⟩
        rw [gk, hy] at HA
        have HC := hideIt (cont_of y rfl rfl)
        have y0 : (y : Int) < 256 := by have : (s[k]).toNat < 256 := UInt8.toNat_lt _; omega
        have v2 : V ≤ 200000 := by
          have : (64 : Int) ^ (k - 1) ≤ 64 ^ 2 := by
            have : k - 1 = 0 ∨ k - 1 = 1 ∨ k - 1 = 2 := by omega
            rcases this with e | e | e <;> rw [e] <;> decide
          omega
        have HG := hideIt (show Lb.cont (s.get! (k - 1 + 1)).toNat = Lb.cont y by rw [show k - 1 + 1 = k by omega, gk, hy])
        clear r2 gk
        by_cases y1 : y < 128
        · have y2 : decide ((y : Int) < 128) = true := by simp; omega
          have HF := hideIt (HT.out (k - 1) (by omega) (by rw [HG.out, HC.out, y2]; rfl))
          rw [hV]
          clear HT HV HB HC HG
          go_wp2
          go_ret2
          exact ⟨by rw [HF.out]; rfl, rfl⟩
        · have y2 : decide ((y : Int) < 128) = false := by simp; omega
          by_cases y3 : 191 < y
          · have y4 : decide ((191 : Int) < (y : Int)) = true := by simp; omega
            have HF := hideIt (HT.out (k - 1) (by omega) (by rw [HG.out, HC.out, y2, y4]; rfl))
            rw [hV]
            clear HT HV HB HC HG
            go_wp2
            go_ret2
            exact ⟨by rw [HF.out]; rfl, rfl⟩
          · have y4 : decide ((191 : Int) < (y : Int)) = false := by simp; omega
            have HF := hideIt (show Lb.cont y = true by rw [HC.out, y2, y4]; rfl)
            rw [hV]
            go_wp2
            go_round
            case rel =>
              refine ⟨k + 1, by omega, by omega, by go_num, ?_, ?_⟩
              · rw [Nat.add_sub_cancel, HA.out]; try rfl
              · intro j hj
                by_cases e : j = k - 1
                · rw [e, HG.out, HF.out]
                · exact HL.out j (by omega)
            case measure => simp [intOf]; omega
      · have d2 : ¬ (k : Int) ≤ 3 := by omega
        have d3 : decide ((k : Int) ≤ 3) = false := by simp; omega
        obtain rfl : k = 3 + 1 := by omega
        have HF := hideIt (HV.out (fun j hj => HL.out j (by omega)))
        rw [show 3 + 1 - 1 = 3 from rfl] at hV
        rw [hV] at HF
        have HW := hideIt (valC_of V 65536 (3 + 1) rfl rfl rfl rfl)
        rw [show 3 + 1 - 1 = 3 from rfl, hV]
        clear hV HA HL HT HV HB r2
        by_cases u1 : V < 65536
        · have u2 : decide (V < 65536) = true := by simpa using u1
          rw [u2] at HW
          go_wp2
          go_ret2
          exact ⟨by rw [HF.out, HW.out]; rfl, rfl⟩
        · have u2 : decide (V < 65536) = false := by simpa using u1
          rw [u2] at HW
          by_cases u3 : 55296 ≤ V
          · have u4 : decide ((55296 : Int) ≤ V) = true := by simpa using u3
            rw [u4] at HW
            by_cases u5 : V < 57344
            · have u6 : decide (V < (57344 : Int)) = true := by simpa using u5
              rw [u6] at HW
              go_wp2
              go_ret2
              exact ⟨by rw [HF.out, HW.out]; rfl, rfl⟩
            · have u6 : decide (V < (57344 : Int)) = false := by simpa using u5
              rw [u6] at HW
              obtain ⟨b, hb⟩ : ∃ b, decide ((1114111 : Int) < V) = b := ⟨_, rfl⟩
              rw [hb] at HW
              cases b
              all_goals
                go_wp2
                go_ret2
                exact ⟨by rw [HF.out, HW.out]; rfl, rfl⟩
          · have u4 : decide ((55296 : Int) ≤ V) = false := by simpa using u3
            rw [u4] at HW
            have u7 : decide ((1114111 : Int) < V) = false := by simp; omega
            rw [u7] at HW
            go_wp2
            go_ret2
            exact ⟨by rw [HF.out, HW.out]; rfl, rfl⟩
theorem first_any (s : ByteArray) (w : World) (h0 : 0 < s.size) (hs : s.size ≤ maxLen) :
    Calls Tryz.prog 88 #[.string s] w fun e w' => e = .returned (.tuple #[.int .i64 (Lb.refV (Utf8.decode s 0)), .int .i64 ((Utf8.decode s 0).2 : Nat)]) ∧ w' = w := by
  have e : Lb.fstS s = (Lb.refV (Utf8.decode s 0), (Utf8.decode s 0).2) := Lb.first_eq s
  have e1 : Lb.refV (Utf8.decode s 0) = (Lb.fstS s).1 := by rw [e]
  have e2 : (Utf8.decode s 0).2 = (Lb.fstS s).2 := by rw [e]
  rw [e1, e2]
  by_cases h1 : (s.get! 0).toNat < 194 ∨ 245 ≤ (s.get! 0).toNat
  · exact first_low s w h0 (by omega)
  · by_cases h2 : (s.get! 0).toNat < 224
    · exact first_cls1 s w hs h0 (by omega)
    · by_cases h3 : (s.get! 0).toNat < 240
      · exact first_cls2 s w hs h0 (by omega)
      · exact first_cls3 s w hs h0 (by omega)
end Go.Proofs.YtmjffngpaoaflaaGreatDoor
namespace Go.Proofs.YtmjffngpaoaflaaGreatDoor
open Go.RowKit
theorem cut_whole (s : ByteArray) : s.extract 0 s.size = s := by
  have : (s.extract 0 s.size).data.toList = s.data.toList := by
    have h : s.data.size = s.size := rfl
    rw [ByteArray.data_extract, ← h]
    simp
    rw [List.take_of_length_le (by simp)]
  rw [← bs_data (s.extract 0 s.size), this, bs_data]
theorem refV_neg (d : Nat × Nat) (h : Lb.isBad d = true) : Lb.refV d = -1 := by rw [Lb.refV, if_pos h]
theorem refV_pos (d : Nat × Nat) (h : Lb.isBad d = false) : ¬ Lb.refV d < 0 := by rw [Lb.refV, h]; simp
set_option maxHeartbeats 1600000 in
set_option maxRecDepth 100000 in
theorem refwords_any (s : ByteArray) (w : World) (hs : s.size ≤ 1000000) :
    Calls Tryz.prog 68 #[.string s] w fun e w' => e = .returned (.tuple #[.int .i64 (Lb.good s s.size 0 : Nat), .int .i64 (Lb.bad s s.size 0 : Nat)]) ∧ w' = w := by
  obtain ⟨n, hn⟩ : ∃ n, Lb.good s s.size 0 = n := ⟨_, rfl⟩
  obtain ⟨m, hm⟩ : ∃ m, Lb.bad s s.size 0 = m := ⟨_, rfl⟩
  rw [hn, hm]
  have HN := hideIt hn
  have HM := hideIt hm
  clear hn hm
  go_enter Tryz.func68, Tryz.ntmps68
  go_wp2
  go_loopw [0, 4, 5, 6, 7] (fun t u v _ _ wr => ∃ pos f a b : Nat, wr = w ∧ t = .string (s.extract pos s.size) ∧ u = .int .i64 a ∧ v = .int .i64 b ∧ a ≤ pos ∧ b ≤ pos ∧ pos ≤ s.size ∧ s.size ≤ pos + f ∧ a + Lb.good s f pos = n ∧ b + Lb.bad s f pos = m) (fun t _ _ _ _ _ => (match t with | .string u => u.size | _ => 0))
  case atStart => exact ⟨0, s.size, 0, 0, rfl, by rw [cut_whole], rfl, rfl, by omega, by omega, by omega, by omega, by rw [HN.out]; omega, by rw [HM.out]; omega⟩
  case round =>
    obtain ⟨pos, f, a, b, rfl, rfl, rfl, rfl, ha, hb, hpl, hf, h1, h2⟩ := hrel
    have htz := Lb.size_cut s pos
    have hdc := Lb.decode_cut s pos
    have hcc := Lb.cut_cut s pos
    obtain ⟨t, ht⟩ : ∃ t, s.extract pos s.size = t := ⟨_, rfl⟩
    rw [ht] at htz hdc hcc ⊢
    by_cases hp : pos < s.size
    · obtain ⟨g, hg, heb, heg⟩ := count_step hp hf h1 h2
      have hw := Lb.width_pos s pos hp
      have hwd := Lb.decode_width s pos hp
      have HB := hideIt (fun w => first_any t w (by omega) (by unfold maxLen; omega))
      have hneg := refV_neg (Utf8.decode s pos)
      have hpos := refV_pos (Utf8.decode s pos)
      rw [hdc] at HB
      obtain ⟨d, hd⟩ : ∃ d, Utf8.decode s pos = d := ⟨_, rfl⟩
      rw [hd] at hg heb heg hw hwd HB hneg hpos
      obtain ⟨x, k⟩ := d
      simp only at hg heb heg hw hwd HB hneg hpos
      obtain ⟨v, hv⟩ : ∃ v, Lb.refV (x, k) = v := ⟨_, rfl⟩
      rw [hv] at HB hneg hpos
      have HT := hideIt ht
      have HCC := hideIt (hcc k)
      have HEB := hideIt heb
      have HEG := hideIt heg
      have b2 : (a : Int) ≤ 1000000 := by omega
      have b3 : (b : Int) ≤ 1000000 := by omega
      have i1 : (0 : Int) < (t.size : Int) := by omega
      have i2 : (0 : Int) ≤ (k : Int) := by omega
      have i3 : (k : Int) ≤ (t.size : Int) := by omega
      have HTZ := hideIt htz
      clear htz hd heb heg hf hdc hcc hv ht h1 h2
      obtain ⟨y, hy⟩ : ∃ y, Lb.isBad (x, k) = y := ⟨_, rfl⟩
      cases y
      · have hvp := hpos hy
        have hvd : decide (v < 0) = false := by simp; omega
        have HE := hideIt (HEG.out hy)
        clear hs hpos hneg HEB HEG hy
        go_wp2_with (first | (go_at_call 88; refine (HB.out _).mono ?_; rintro e wx ⟨rfl, hwx⟩; obtain rfl := hwx.symm))
        go_roundw
        case rel => exact ⟨pos + k, g, a + 1, b, by first | rfl | trivial, by rw [HCC.out], by go_num, rfl, by omega, by omega, by omega, hg, HE.out.1, HE.out.2⟩
        case measure => simp; omega
      · have hvn := hneg hy
        have hvd : decide (v < 0) = true := by simp; omega
        clear hvn
        have HE := hideIt (HEB.out hy)
        clear hs hpos hneg HEB HEG hy
        go_wp2_with (first | (go_at_call 88; refine (HB.out _).mono ?_; rintro e wx ⟨rfl, hwx⟩; obtain rfl := hwx.symm))
        go_roundw
        case rel => exact ⟨pos + k, g, a, b + 1, by first | rfl | trivial, by rw [HCC.out], rfl, by go_num, by omega, by omega, by omega, hg, HE.out.1, HE.out.2⟩
        case measure => simp; omega
    · have z0 : t.size = 0 := by omega
      have i1 : ¬ (0 : Int) < (t.size : Int) := by omega
      have e1 : a = n := by rw [Lb.good, Lb.runes_end s f pos hp] at h1; simpa using h1
      have e2 : b = m := by rw [Lb.bad, Lb.runes_end s f pos hp] at h2; simpa using h2
      subst e1 e2
      clear h1 h2 HN HM hcc hdc ht
      go_wp2
      go_ret2
      exact ⟨rfl, rfl⟩
end Go.Proofs.YtmjffngpaoaflaaGreatDoor
namespace Go.Proofs.YtmjffngpaoaflaaGreatDoor
open Go.RowKit
theorem cut_all (s : ByteArray) : s.extract 0 s.size = s := by
  have : (s.extract 0 s.size).data.toList = s.data.toList := by
    have h : s.data.size = s.size := rfl
    rw [ByteArray.data_extract, ← h]
    simp
    rw [List.take_of_length_le (by simp)]
  rw [← bs_data (s.extract 0 s.size), this, bs_data]
set_option maxHeartbeats 1600000 in
set_option maxRecDepth 100000 in
theorem refname_any (s : ByteArray) (w : World) (hs : s.size ≤ maxLen) :
    Calls Tryz.prog 67 #[.string s] w fun e w' => e = .returned (.bool (Lb.nameB s)) ∧ w' = w := by
  obtain ⟨e1, e2, e3, e4⟩ := seg_cmp s
  have HN := hideIt (noName_of s rfl rfl rfl rfl)
  have HD : Hid (Lb.nameB s = (!Lb.noName s.data.toList && (Lb.runes s).all (fun d => !Lb.bar d.1))) := rfl
  rw [HN.out] at HD
  clear HN
  obtain ⟨m, hm⟩ : ∃ m : Int, (s.size : Int) = m := ⟨_, rfl⟩
  rw [hm] at HD
  generalize hx1 : (s.data.toList == []) = x1 at *
  generalize hx2 : (s.data.toList == [46]) = x2 at *
  generalize hx3 : (s.data.toList == [46, 46]) = x3 at *
  generalize hx4 : decide ((64 : Int) < m) = x4 at *
  clear hx1 hx2 hx3
  cases x1 <;> cases x4 <;> cases x2 <;> cases x3
  case false.false.false.false =>
    have HD' : Hid (Lb.nameB s = (Lb.runes s).all (fun d => !Lb.bar d.1)) := hideIt (by rw [HD.out]; simp)
    clear HD
    go_enter Tryz.func67, Tryz.ntmps67
    go_wp2
    go_loopw [0, 3, 4] (fun t _ _ wr => ∃ pos f : Nat, wr = w ∧ t = .string (s.extract pos s.size) ∧ pos ≤ s.size ∧ s.size ≤ pos + f ∧ (Lb.runesF s f pos).all (fun d => !Lb.bar d.1) = Lb.nameB s) (fun t _ _ _ => (match t with | .string u => u.size | _ => 0))
    case atStart => exact ⟨0, s.size, rfl, by rw [cut_all], by omega, by omega, by rw [HD'.out]; rfl⟩
    case round =>
      obtain ⟨pos, f, rfl, rfl, hpl, hf, hr⟩ := hrel
      have htz := Lb.size_cut s pos
      have hdc := Lb.decode_cut s pos
      have hcc := Lb.cut_cut s pos
      clear e1 e2 e3 e4 hm
      obtain ⟨t, ht⟩ : ∃ t, s.extract pos s.size = t := ⟨_, rfl⟩
      rw [ht] at htz hdc hcc ⊢
      by_cases hp : pos < s.size
      · obtain ⟨g, hg, he⟩ := all_step hp hf hr
        have hw := Lb.width_pos s pos hp
        have hwd := Lb.decode_width s pos hp
        have HB := hideIt (fun w => first_any t w (by omega) (by omega))
        have hbr := barI_ref (Utf8.decode s pos)
        rw [hdc] at HB
        obtain ⟨d, hd⟩ : ∃ d, Utf8.decode s pos = d := ⟨_, rfl⟩
        rw [hd] at hg he hw hwd HB hbr
        obtain ⟨x, k⟩ := d
        simp only at hg he hw hwd HB hbr
        obtain ⟨v, hv⟩ : ∃ v, Lb.refV (x, k) = v := ⟨_, rfl⟩
        rw [hv] at HB hbr
        have HE := hideIt he
        have HR := hideIt hbr
        have HT := hideIt ht
        have HCC := hideIt (hcc k)
        clear hd he hr hf hdc hcc hv hbr ht
        have i1 : (0 : Int) < (t.size : Int) := by omega
        have i2 : (0 : Int) ≤ (k : Int) := by omega
        have i3 : (k : Int) ≤ (t.size : Int) := by omega
        have HTZ := hideIt htz
        clear htz
        rcases bar_cases v with H | H | H | H | H | H
        all_goals (have HBV := hideIt (barI_of H); obtain ⟨q1, q2, q3, q4, q5⟩ := H; rw [HR.out] at HBV)
        all_goals go_wp2_with (first | (go_at_call 88; refine (HB.out _).mono ?_; rintro e wx ⟨rfl, hwx⟩; obtain rfl := hwx.symm))
        all_goals first
          | (go_ret; exact ⟨by rw [← HE.out, HBV.out]; rfl, rfl⟩)
          | (go_roundw
             case rel => exact ⟨pos + k, g, by first | rfl | trivial, by rw [HCC.out], by omega, hg, by rw [← HE.out, HBV.out]; rfl⟩
             case measure => simp; omega)
      · have z0 : t.size = 0 := by omega
        have i1 : ¬ (0 : Int) < (t.size : Int) := by omega
        have HE := hideIt hr
        clear hr hcc hdc ht
        go_wp2
        go_ret
        exact ⟨by rw [← HE.out, Lb.runes_end s f pos hp]; rfl, rfl⟩
  all_goals
    have HD' : Hid (Lb.nameB s = false) := hideIt (by rw [HD.out]; simp)
    clear HD
    go_enter Tryz.func67, Tryz.ntmps67
    go_wp2
    go_ret
    exact ⟨by rw [HD'.out]; try rfl, rfl⟩
end Go.Proofs.YtmjffngpaoaflaaGreatDoor
