/- Packs: plain readings. -/
import Derived.Test.YtjiigdjopcegeaaDoorLdSpq
import Derived.Test.YtjiigdjopcegeaaDoorSaOf
namespace Go.Proofs.YtjiigdjopcegeaaDoor.Pk
open Cb Ld Go.RowKit
/-- An item: its base, its text, its place. -/
structure It where
  b : List UInt8
  d : List UInt8
  pl : Int
def titleL : List UInt8 := [112, 111, 108, 108, 97, 114, 100, 32, 112, 97, 99, 107, 10]
/-- How an item begins. -/
def headL (b : List UInt8) : List UInt8 := if b = [] then [119] else 109 :: b
/-- An item's bytes. -/
def itemL (x : It) : List UInt8 := headL x.b ++ Cd.numL (Lz.press x.d).length ++ Lz.press x.d
def itemsL : List It → List UInt8
  | [] => []
  | x :: l => itemL x ++ itemsL l
def bodyL (l : List It) : List UInt8 := titleL ++ Cd.numL l.length ++ itemsL l
def shaL (M : List UInt8) : List UInt8 := (Sa.Sha.sha M).data.toList
theorem sha_size (M : List UInt8) : (Sa.Sha.sha M).size = 32 := by
  simp [Sa.Sha.sha, Sa.Sha.out, Sa.Sha.bstr, ByteArray.size]
theorem shaL_len (M : List UInt8) : (shaL M).length = 32 := by
  rw [shaL, Array.length_toList]
  exact sha_size M
def packL (l : List It) : List UInt8 := bodyL l ++ shaL (bodyL l)
/-- May a base be? -/
def baseOk (x : It) : Prop := x.b.length = 0 ∨ x.b.length = 32
instance (x : It) : Decidable (baseOk x) := inferInstanceAs (Decidable (_ ∨ _))
theorem itemsL_append (l m : List It) : itemsL (l ++ m) = itemsL l ++ itemsL m := by
  induction l with
  | nil => rfl
  | cons x l ih => rw [List.cons_append, itemsL, itemsL, ih, List.append_assoc]
theorem itemsL_take (l : List It) (i : Nat) (x : It) (h : l[i]? = some x) : itemsL (l.take (i + 1)) = itemsL (l.take i) ++ itemL x := by
  rw [List.take_add_one, h, itemsL_append]
  simp [itemsL]
theorem itemsL_le (l : List It) (i : Nat) : (itemsL (l.take i)).length ≤ (itemsL l).length := by
  conv => rhs; rw [← List.take_append_drop i l, itemsL_append, List.length_append]
  omega
/-- The base at the beginning of bytes, how many bytes tell it, the error. -/
def rb : List UInt8 → List UInt8 × Nat × Nat
  | [] => ([], 0, 4)
  | c :: r => if c = 119 then ([], 1, 0) else if c = 109 then (if r.length < 32 then ([], 0, 4) else (r.take 32, 33, 0)) else ([], 0, 6)
/-- What is read of an item: its base, its text, how many bytes it has, the error. -/
structure Ri where
  b : List UInt8
  d : List UInt8
  k : Nat
  e : Nat
def riN (sp : List UInt8 → Nat × List UInt8) (B : List UInt8) (k : Nat) (R : List UInt8) (n : Nat) : Ri :=
  if R.length < n then ⟨[], [], 0, 4⟩ else if (sp (R.take n)).1 ≠ 0 then ⟨[], [], 0, (sp (R.take n)).1⟩ else ⟨B, (sp (R.take n)).2, k + n, 0⟩
def riB (sp : List UInt8 → Nat × List UInt8) (B : List UInt8) (k : Nat) (R : List UInt8) : Ri :=
  if (Cd.unnum R).2.2 ≠ 0 then ⟨[], [], 0, (Cd.unnum R).2.2⟩ else riN sp B (k + (Cd.unnum R).2.1) (R.drop (Cd.unnum R).2.1) (Cd.unnum R).1
def ri (sp : List UInt8 → Nat × List UInt8) (L : List UInt8) : Ri :=
  if (rb L).2.2 ≠ 0 then ⟨[], [], 0, (rb L).2.2⟩ else riB sp (rb L).1 (rb L).2.1 (L.drop (rb L).2.1)
/-- So many items from a place on: the error, the items. -/
def ris (sp : List UInt8 → Nat × List UInt8) (S : List UInt8) : Nat → Nat → Nat → Nat × List It
  | 0, _, at_ => if at_ < S.length then (5, []) else (0, [])
  | n + 1, left, at_ =>
    if (ri sp (S.drop at_)).e ≠ 0 then ((ri sp (S.drop at_)).e, [])
    else if left < (ri sp (S.drop at_)).d.length then (3, [])
    else if (ris sp S n (left - (ri sp (S.drop at_)).d.length) (at_ + (ri sp (S.drop at_)).k)).1 ≠ 0 then ((ris sp S n (left - (ri sp (S.drop at_)).d.length) (at_ + (ri sp (S.drop at_)).k)).1, [])
    else (0, ⟨(ri sp (S.drop at_)).b, (ri sp (S.drop at_)).d, (at_ : Int)⟩ :: (ris sp S n (left - (ri sp (S.drop at_)).d.length) (at_ + (ri sp (S.drop at_)).k)).2)
/-- What a pack's sum says. -/
def sumE (p : List UInt8) : Nat := if 4194304 < p.length then 3 else if p.length < 32 then 4 else if shaL (p.take (p.length - 32)) = p.drop (p.length - 32) then 0 else 80
def scB (sp : List UInt8 → Nat × List UInt8) (S : List UInt8) : Nat × List It :=
  if S.take 13 ≠ titleL then (6, [])
  else if (Cd.unnum (S.drop 13)).2.2 ≠ 0 then ((Cd.unnum (S.drop 13)).2.2, [])
  else if 2048 < (Cd.unnum (S.drop 13)).1 then (3, [])
  else ris sp S (Cd.unnum (S.drop 13)).1 16777216 (13 + (Cd.unnum (S.drop 13)).2.1)
/-- The items of a pack: the error, the items. -/
def scn (sp : List UInt8 → Nat × List UInt8) (p : List UInt8) : Nat × List It :=
  if sumE p ≠ 0 then (sumE p, []) else scB sp (p.take (p.length - 32))
def spPp (p : List UInt8) : Nat × List UInt8 := Lz.spP p 1048576
def spRr (p : List UInt8) : Nat × List UInt8 := Lz.spR p 1048576
/-- What is pressed is spread again. -/
def Spreads (sp : List UInt8 → Nat × List UInt8) : Prop := ∀ d : List UInt8, d.length ≤ 1048576 → sp (Lz.press d) = (0, d)
theorem spreads_P : Spreads spPp := fun d h => Lz.sp_press d 1048576 h (by omega)
theorem spreads_R : Spreads spRr := fun d h => by
  have h1 := Lz.sp_press d 1048576 h (by omega)
  have := (Lz.sp_same (Lz.press d) 1048576).2 (by rw [h1])
  rw [spRr, ← this, h1]
theorem rb_head (b R : List UInt8) (h : b.length = 0 ∨ b.length = 32) : rb (headL b ++ R) = (b, (headL b).length, 0) := by
  rcases h with h | h
  · have : b = [] := List.length_eq_zero_iff.1 h
    subst this
    rfl
  · have h0 : b ≠ [] := fun e => by rw [e] at h; simp at h
    rw [headL, if_neg h0, List.cons_append, rb, if_neg (by decide), if_pos rfl, if_neg (by rw [List.length_append]; omega), List.take_append_of_le_length (by omega), List.take_of_length_le (by omega), List.length_cons, h]
theorem ri_item {sp : List UInt8 → Nat × List UInt8} (hsp : Spreads sp) (x : It) (R : List UInt8) (hb : baseOk x) (hd : x.d.length ≤ 1048576) (hp : (Lz.press x.d).length < 9223372036854775808) : ri sp (itemL x ++ R) = ⟨x.b, x.d, (itemL x).length, 0⟩ := by
  have e1 : itemL x ++ R = headL x.b ++ (Cd.numL (Lz.press x.d).length ++ (Lz.press x.d ++ R)) := by rw [itemL, List.append_assoc, List.append_assoc]
  rw [e1, ri, rb_head x.b _ hb]
  simp only [ne_eq, not_true_eq_false, if_false, List.drop_left]
  rw [riB, Cd.unnum_num _ hp]
  simp only [ne_eq, not_true_eq_false, if_false, List.drop_left]
  rw [riN, if_neg (by rw [List.length_append]; omega), List.take_left, hsp x.d hd]
  simp only [ne_eq, not_true_eq_false, if_false]
  rw [itemL, List.length_append, List.length_append]
/-- Items with their places. -/
def placed : Nat → List It → List It
  | _, [] => []
  | k, x :: l => ⟨x.b, x.d, (k : Int)⟩ :: placed (k + (itemL x).length) l
theorem placed_len : ∀ (l : List It) (k : Nat), (placed k l).length = l.length
  | [], _ => rfl
  | x :: l, k => by rw [placed, List.length_cons, List.length_cons, placed_len l]
theorem placed_at : ∀ (l : List It) (k i : Nat) (x : It), l[i]? = some x → ∃ p : Int, (placed k l)[i]? = some ⟨x.b, x.d, p⟩
  | [], _, i, x, h => by simp at h
  | y :: l, k, 0, x, h => by
    simp at h
    subst h
    exact ⟨k, rfl⟩
  | y :: l, k, i + 1, x, h => by
    rw [placed]
    simp at h ⊢
    exact placed_at l _ i x h
def dataN : List It → Nat
  | [] => 0
  | x :: l => x.d.length + dataN l
/-- Items that may be. -/
def ItemsOk (l : List It) : Prop := ∀ x ∈ l, baseOk x ∧ x.d.length ≤ 1048576 ∧ (Lz.press x.d).length < 9223372036854775808
theorem ris_items {sp : List UInt8 → Nat × List UInt8} (hsp : Spreads sp) (S : List UInt8) : ∀ (l : List It) (k left : Nat) (A : List UInt8), ItemsOk l → S = A ++ itemsL l → A.length = k → dataN l ≤ left → ris sp S l.length left k = (0, placed k l)
  | [], k, left, A, _, hS, hA, _ => by
    have : S.length = k := by rw [hS]; simp [itemsL, hA]
    rw [List.length_nil, ris, if_neg (by omega), placed]
  | x :: l, k, left, A, hok, hS, hA, hd => by
    obtain ⟨h1, h2, h3⟩ := hok x (by simp)
    have hdrop : S.drop k = itemL x ++ itemsL l := by rw [hS, ← hA, List.drop_left, itemsL]
    have hri := ri_item hsp x (itemsL l) h1 h2 h3
    rw [dataN] at hd
    have ih := ris_items hsp S l (k + (itemL x).length) (left - x.d.length) (A ++ itemL x) (fun y hy => hok y (by simp [hy])) (by rw [hS, itemsL, List.append_assoc]) (by rw [List.length_append, hA]) (by omega)
    rw [List.length_cons, ris, hdrop, hri]
    simp only [ne_eq, not_true_eq_false, if_false]
    rw [if_neg (by omega), ih, placed]
    simp
theorem bodyL_drop (l : List It) : (bodyL l).drop 13 = Cd.numL l.length ++ itemsL l := by
  have : (bodyL l) = titleL ++ (Cd.numL l.length ++ itemsL l) := by rw [bodyL, List.append_assoc]
  rw [this]
  exact List.drop_left (l₁ := titleL)
theorem scB_body {sp : List UInt8 → Nat × List UInt8} (hsp : Spreads sp) (l : List It) (hok : ItemsOk l) (hl : l.length ≤ 2048) (hd : dataN l ≤ 16777216) : scB sp (bodyL l) = (0, placed (13 + (Cd.numL l.length).length) l) := by
  have ht : (bodyL l).take 13 = titleL := by
    rw [bodyL, List.append_assoc]
    exact List.take_left (l₁ := titleL)
  have hu := Cd.unnum_num l.length (by omega) (itemsL l)
  rw [scB, ht, if_neg (by simp), bodyL_drop, hu]
  simp only [ne_eq, not_true_eq_false, if_false]
  rw [if_neg (by omega)]
  exact ris_items hsp (bodyL l) l _ _ (titleL ++ Cd.numL l.length) hok (by rw [bodyL]) (by rw [List.length_append]; rfl) hd
theorem pack_parts (l : List It) : (packL l).length = (bodyL l).length + 32 ∧ (packL l).take ((packL l).length - 32) = bodyL l ∧ (packL l).drop ((packL l).length - 32) = shaL (bodyL l) := by
  have h : (packL l).length = (bodyL l).length + 32 := by rw [packL, List.length_append, shaL_len]
  refine ⟨h, ?_, ?_⟩
  · rw [h, Nat.add_sub_cancel, packL]; exact List.take_left
  · rw [h, Nat.add_sub_cancel, packL]; exact List.drop_left
theorem sumE_pack (l : List It) (h : (bodyL l).length ≤ 4194272) : sumE (packL l) = 0 := by
  obtain ⟨h1, h2, h3⟩ := pack_parts l
  rw [sumE, if_neg (by omega), if_neg (by omega), h2, h3, if_pos rfl]
theorem scn_pack {sp : List UInt8 → Nat × List UInt8} (hsp : Spreads sp) (l : List It) (hok : ItemsOk l) (hl : l.length ≤ 2048) (hd : dataN l ≤ 16777216) (h : (bodyL l).length ≤ 4194272) : scn sp (packL l) = (0, placed (13 + (Cd.numL l.length).length) l) := by
  rw [scn, sumE_pack l h, if_neg (by simp), (pack_parts l).2.1]
  exact scB_body hsp l hok hl hd
end Go.Proofs.YtjiigdjopcegeaaDoor.Pk
