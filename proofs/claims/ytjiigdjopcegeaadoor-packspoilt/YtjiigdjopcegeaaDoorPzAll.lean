/- Packs: plain readings. Packs: a base and an item, read: walked. Packs: rows of items in memory; so many items, read: walked. Packs: the sum at the end, and all items: walked. -/
import Derived.Test.YtjiigdjopcegeaaDoorLdSpq
import Derived.Test.YtjiigdjopcegeaaDoorSaOf
import Derived.Test.YtjiigdjopcegeaaDoorLdSpd
import Derived.Test.YtjiigdjopcegeaaDoorShelf
import Derived.Deep.RegionHeld3
import Derived.Laws.Cover1
namespace Go.Proofs.YtjiigdjopcegeaaDoor.Pk
open Cb Ld Go.RowKit
/-- An item: its base, its text, its place. -/
structure It where
  b : List UInt8
  d : List UInt8
  pl : Int
def titleL : List UInt8 := [112, 111, 108, 108, 97, 114, 100, 32, 112, 97, 99, 107, 10]
/-- How an item begins. -/
def headL (b : List UInt8) : List UInt8 := if b = [] then [119] else 109 :: b
/-- An item's bytes. -/
def itemL (x : It) : List UInt8 := headL x.b ++ Cd.numL (Lz.press x.d).length ++ Lz.press x.d
def itemsL : List It → List UInt8
  | [] => []
  | x :: l => itemL x ++ itemsL l
def bodyL (l : List It) : List UInt8 := titleL ++ Cd.numL l.length ++ itemsL l
def shaL (M : List UInt8) : List UInt8 := (Sa.Sha.sha M).data.toList
theorem sha_size (M : List UInt8) : (Sa.Sha.sha M).size = 32 := by
  simp [Sa.Sha.sha, Sa.Sha.out, Sa.Sha.bstr, ByteArray.size]
theorem shaL_len (M : List UInt8) : (shaL M).length = 32 := by
  rw [shaL, Array.length_toList]
  exact sha_size M
def packL (l : List It) : List UInt8 := bodyL l ++ shaL (bodyL l)
/-- May a base be? -/
def baseOk (x : It) : Prop := x.b.length = 0 ∨ x.b.length = 32
instance (x : It) : Decidable (baseOk x) := inferInstanceAs (Decidable (_ ∨ _))
theorem itemsL_append (l m : List It) : itemsL (l ++ m) = itemsL l ++ itemsL m := by
  induction l with
  | nil => rfl
  | cons x l ih => rw [List.cons_append, itemsL, itemsL, ih, List.append_assoc]
theorem itemsL_take (l : List It) (i : Nat) (x : It) (h : l[i]? = some x) : itemsL (l.take (i + 1)) = itemsL (l.take i) ++ itemL x := by
  rw [List.take_add_one, h, itemsL_append]
  simp [itemsL]
theorem itemsL_le (l : List It) (i : Nat) : (itemsL (l.take i)).length ≤ (itemsL l).length := by
  conv => rhs; rw [← List.take_append_drop i l, itemsL_append, List.length_append]
  omega
/-- The base at the beginning of bytes, how many bytes tell it, the error. -/
def rb : List UInt8 → List UInt8 × Nat × Nat
  | [] => ([], 0, 4)
  | c :: r => if c = 119 then ([], 1, 0) else if c = 109 then (if r.length < 32 then ([], 0, 4) else (r.take 32, 33, 0)) else ([], 0, 6)
/-- What is read of an item: its base, its text, how many bytes it has, the error. -/
structure Ri where
  b : List UInt8
  d : List UInt8
  k : Nat
  e : Nat
def riN (sp : List UInt8 → Nat × List UInt8) (B : List UInt8) (k : Nat) (R : List UInt8) (n : Nat) : Ri :=
  if R.length < n then ⟨[], [], 0, 4⟩ else if (sp (R.take n)).1 ≠ 0 then ⟨[], [], 0, (sp (R.take n)).1⟩ else ⟨B, (sp (R.take n)).2, k + n, 0⟩
def riB (sp : List UInt8 → Nat × List UInt8) (B : List UInt8) (k : Nat) (R : List UInt8) : Ri :=
  if (Cd.unnum R).2.2 ≠ 0 then ⟨[], [], 0, (Cd.unnum R).2.2⟩ else riN sp B (k + (Cd.unnum R).2.1) (R.drop (Cd.unnum R).2.1) (Cd.unnum R).1
def ri (sp : List UInt8 → Nat × List UInt8) (L : List UInt8) : Ri :=
  if (rb L).2.2 ≠ 0 then ⟨[], [], 0, (rb L).2.2⟩ else riB sp (rb L).1 (rb L).2.1 (L.drop (rb L).2.1)
/-- So many items from a place on: the error, the items. -/
def ris (sp : List UInt8 → Nat × List UInt8) (S : List UInt8) : Nat → Nat → Nat → Nat × List It
  | 0, _, at_ => if at_ < S.length then (5, []) else (0, [])
  | n + 1, left, at_ =>
    if (ri sp (S.drop at_)).e ≠ 0 then ((ri sp (S.drop at_)).e, [])
    else if left < (ri sp (S.drop at_)).d.length then (3, [])
    else if (ris sp S n (left - (ri sp (S.drop at_)).d.length) (at_ + (ri sp (S.drop at_)).k)).1 ≠ 0 then ((ris sp S n (left - (ri sp (S.drop at_)).d.length) (at_ + (ri sp (S.drop at_)).k)).1, [])
    else (0, ⟨(ri sp (S.drop at_)).b, (ri sp (S.drop at_)).d, (at_ : Int)⟩ :: (ris sp S n (left - (ri sp (S.drop at_)).d.length) (at_ + (ri sp (S.drop at_)).k)).2)
/-- What a pack's sum says. -/
def sumE (p : List UInt8) : Nat := if 4194304 < p.length then 3 else if p.length < 32 then 4 else if shaL (p.take (p.length - 32)) = p.drop (p.length - 32) then 0 else 80
def scB (sp : List UInt8 → Nat × List UInt8) (S : List UInt8) : Nat × List It :=
  if S.take 13 ≠ titleL then (6, [])
  else if (Cd.unnum (S.drop 13)).2.2 ≠ 0 then ((Cd.unnum (S.drop 13)).2.2, [])
  else if 2048 < (Cd.unnum (S.drop 13)).1 then (3, [])
  else ris sp S (Cd.unnum (S.drop 13)).1 16777216 (13 + (Cd.unnum (S.drop 13)).2.1)
/-- The items of a pack: the error, the items. -/
def scn (sp : List UInt8 → Nat × List UInt8) (p : List UInt8) : Nat × List It :=
  if sumE p ≠ 0 then (sumE p, []) else scB sp (p.take (p.length - 32))
def spPp (p : List UInt8) : Nat × List UInt8 := Lz.spP p 1048576
def spRr (p : List UInt8) : Nat × List UInt8 := Lz.spR p 1048576
/-- What is pressed is spread again. -/
def Spreads (sp : List UInt8 → Nat × List UInt8) : Prop := ∀ d : List UInt8, d.length ≤ 1048576 → sp (Lz.press d) = (0, d)
theorem spreads_P : Spreads spPp := fun d h => Lz.sp_press d 1048576 h (by omega)
theorem spreads_R : Spreads spRr := fun d h => by
  have h1 := Lz.sp_press d 1048576 h (by omega)
  have := (Lz.sp_same (Lz.press d) 1048576).2 (by rw [h1])
  rw [spRr, ← this, h1]
theorem rb_head (b R : List UInt8) (h : b.length = 0 ∨ b.length = 32) : rb (headL b ++ R) = (b, (headL b).length, 0) := by
  rcases h with h | h
  · have : b = [] := List.length_eq_zero_iff.1 h
    subst this
    rfl
  · have h0 : b ≠ [] := fun e => by rw [e] at h; simp at h
    rw [headL, if_neg h0, List.cons_append, rb, if_neg (by decide), if_pos rfl, if_neg (by rw [List.length_append]; omega), List.take_append_of_le_length (by omega), List.take_of_length_le (by omega), List.length_cons, h]
theorem ri_item {sp : List UInt8 → Nat × List UInt8} (hsp : Spreads sp) (x : It) (R : List UInt8) (hb : baseOk x) (hd : x.d.length ≤ 1048576) (hp : (Lz.press x.d).length < 9223372036854775808) : ri sp (itemL x ++ R) = ⟨x.b, x.d, (itemL x).length, 0⟩ := by
  have e1 : itemL x ++ R = headL x.b ++ (Cd.numL (Lz.press x.d).length ++ (Lz.press x.d ++ R)) := by rw [itemL, List.append_assoc, List.append_assoc]
  rw [e1, ri, rb_head x.b _ hb]
  simp only [ne_eq, not_true_eq_false, if_false, List.drop_left]
  rw [riB, Cd.unnum_num _ hp]
  simp only [ne_eq, not_true_eq_false, if_false, List.drop_left]
  rw [riN, if_neg (by rw [List.length_append]; omega), List.take_left, hsp x.d hd]
  simp only [ne_eq, not_true_eq_false, if_false]
  rw [itemL, List.length_append, List.length_append]
/-- Items with their places. -/
def placed : Nat → List It → List It
  | _, [] => []
  | k, x :: l => ⟨x.b, x.d, (k : Int)⟩ :: placed (k + (itemL x).length) l
theorem placed_len : ∀ (l : List It) (k : Nat), (placed k l).length = l.length
  | [], _ => rfl
  | x :: l, k => by rw [placed, List.length_cons, List.length_cons, placed_len l]
theorem placed_at : ∀ (l : List It) (k i : Nat) (x : It), l[i]? = some x → ∃ p : Int, (placed k l)[i]? = some ⟨x.b, x.d, p⟩
  | [], _, i, x, h => by simp at h
  | y :: l, k, 0, x, h => by
    simp at h
    subst h
    exact ⟨k, rfl⟩
  | y :: l, k, i + 1, x, h => by
    rw [placed]
    simp at h ⊢
    exact placed_at l _ i x h
def dataN : List It → Nat
  | [] => 0
  | x :: l => x.d.length + dataN l
/-- Items that may be. -/
def ItemsOk (l : List It) : Prop := ∀ x ∈ l, baseOk x ∧ x.d.length ≤ 1048576 ∧ (Lz.press x.d).length < 9223372036854775808
theorem ris_items {sp : List UInt8 → Nat × List UInt8} (hsp : Spreads sp) (S : List UInt8) : ∀ (l : List It) (k left : Nat) (A : List UInt8), ItemsOk l → S = A ++ itemsL l → A.length = k → dataN l ≤ left → ris sp S l.length left k = (0, placed k l)
  | [], k, left, A, _, hS, hA, _ => by
    have : S.length = k := by rw [hS]; simp [itemsL, hA]
    rw [List.length_nil, ris, if_neg (by omega), placed]
  | x :: l, k, left, A, hok, hS, hA, hd => by
    obtain ⟨h1, h2, h3⟩ := hok x (by simp)
    have hdrop : S.drop k = itemL x ++ itemsL l := by rw [hS, ← hA, List.drop_left, itemsL]
    have hri := ri_item hsp x (itemsL l) h1 h2 h3
    rw [dataN] at hd
    have ih := ris_items hsp S l (k + (itemL x).length) (left - x.d.length) (A ++ itemL x) (fun y hy => hok y (by simp [hy])) (by rw [hS, itemsL, List.append_assoc]) (by rw [List.length_append, hA]) (by omega)
    rw [List.length_cons, ris, hdrop, hri]
    simp only [ne_eq, not_true_eq_false, if_false]
    rw [if_neg (by omega), ih, placed]
    simp
theorem bodyL_drop (l : List It) : (bodyL l).drop 13 = Cd.numL l.length ++ itemsL l := by
  have : (bodyL l) = titleL ++ (Cd.numL l.length ++ itemsL l) := by rw [bodyL, List.append_assoc]
  rw [this]
  exact List.drop_left (l₁ := titleL)
theorem scB_body {sp : List UInt8 → Nat × List UInt8} (hsp : Spreads sp) (l : List It) (hok : ItemsOk l) (hl : l.length ≤ 2048) (hd : dataN l ≤ 16777216) : scB sp (bodyL l) = (0, placed (13 + (Cd.numL l.length).length) l) := by
  have ht : (bodyL l).take 13 = titleL := by
    rw [bodyL, List.append_assoc]
    exact List.take_left (l₁ := titleL)
  have hu := Cd.unnum_num l.length (by omega) (itemsL l)
  rw [scB, ht, if_neg (by simp), bodyL_drop, hu]
  simp only [ne_eq, not_true_eq_false, if_false]
  rw [if_neg (by omega)]
  exact ris_items hsp (bodyL l) l _ _ (titleL ++ Cd.numL l.length) hok (by rw [bodyL]) (by rw [List.length_append]; rfl) hd
theorem pack_parts (l : List It) : (packL l).length = (bodyL l).length + 32 ∧ (packL l).take ((packL l).length - 32) = bodyL l ∧ (packL l).drop ((packL l).length - 32) = shaL (bodyL l) := by
  have h : (packL l).length = (bodyL l).length + 32 := by rw [packL, List.length_append, shaL_len]
  refine ⟨h, ?_, ?_⟩
  · rw [h, Nat.add_sub_cancel, packL]; exact List.take_left
  · rw [h, Nat.add_sub_cancel, packL]; exact List.drop_left
theorem sumE_pack (l : List It) (h : (bodyL l).length ≤ 4194272) : sumE (packL l) = 0 := by
  obtain ⟨h1, h2, h3⟩ := pack_parts l
  rw [sumE, if_neg (by omega), if_neg (by omega), h2, h3, if_pos rfl]
theorem scn_pack {sp : List UInt8 → Nat × List UInt8} (hsp : Spreads sp) (l : List It) (hok : ItemsOk l) (hl : l.length ≤ 2048) (hd : dataN l ≤ 16777216) (h : (bodyL l).length ≤ 4194272) : scn sp (packL l) = (0, placed (13 + (Cd.numL l.length).length) l) := by
  rw [scn, sumE_pack l h, if_neg (by simp), (pack_parts l).2.1]
  exact scB_body hsp l hok hl hd
end Go.Proofs.YtjiigdjopcegeaaDoor.Pk
namespace Go.Proofs.YtjiigdjopcegeaaDoor.Pk
open Cb Ld Go.RowKit Go.Shelf
def E0 : ByteArray := ⟨#[]⟩
theorem bs_nil : bs [] = E0 := rfl
theorem drop_bs (L : List UInt8) (k : Nat) : (bs L).extract k (bs L).size = bs (L.drop k) := by
  apply ByteArray.ext
  apply Array.toList_inj.1
  simp [bs, List.extract_eq_take_drop, ByteArray.size]
  exact List.take_of_length_le (by simp)
theorem ext_bs (L : List UInt8) (a n : Nat) : (bs L).extract a (a + n) = bs ((L.drop a).take n) := by
  apply ByteArray.ext
  apply Array.toList_inj.1
  simp [bs, List.extract_eq_take_drop]
theorem take_bs (L : List UInt8) (k : Nat) : (bs L).extract 0 k = bs (L.take k) := by
  have := ext_bs L 0 k
  rw [Nat.zero_add] at this
  rw [this, List.drop_zero]
theorem clone_any (s : ByteArray) (w : World) (hs : s.size ≤ 281474976710656) : Calls Tryd.prog 55 #[.string s] w fun e w' => e = .returned (.string s) ∧ Below w.heap.size w w' := by
  have H := hideIt (fun w => Tryd.stringslite_Clone s w hs)
  go_enter Tryd.func55, Tryd.ntmps55
  go_wp2_with (first | (go_at_call 66; refine (H.out _).mono ?_; rintro e w1 ⟨rfl, hb⟩))
  go_ret
  exact ⟨rfl, hb⟩
theorem nonempty_of {S : ByteArray} (h : 0 < S.size) : (S.toList == []) = false ∧ S.toList.isEmpty = false := by
  have hl : S.toList.length = S.size := by rw [ByteArray.toList_eq]; exact str_len S
  cases hx : S.toList with
  | nil => rw [hx] at hl; simp at hl; omega
  | cons a l => exact ⟨rfl, rfl⟩
def rbV (r : List UInt8 × Nat × Nat) : Value := .tuple #[.string (bs r.1), .int .i64 (r.2.1 : Int), .int .i64 (r.2.2 : Int)]
set_option maxHeartbeats 1600000 in
set_option maxRecDepth 100000 in
theorem readBase_any (L : List UInt8) (w : World) (hL : L.length ≤ 100000000) :
    Calls Tryd.prog 53 #[.string (bs L)] w fun e w' => e = .returned (rbV (rb L)) ∧ w' = w := by
  cases L with
  | nil =>
    have be : bs [] = (⟨#[]⟩ : ByteArray) := rfl
    have HV : Hid (rbV (rb []) = .tuple #[.string ⟨#[]⟩, .int .i64 0, .int .i64 4]) := hideIt rfl
    rw [be, HV.out]
    go_enter Tryd.func53, Tryd.ntmps53
    go_wp2
    go_ret3
    exact ⟨rfl, rfl⟩
  | cons c r =>
    have hex : (bs (c :: r)).extract 1 33 = bs (r.take 32) := by rw [show (33 : Nat) = 1 + 32 from rfl, ext_bs]; rfl
    obtain ⟨S, hS, h0, hc⟩ : ∃ S, bs (c :: r) = S ∧ ∃ h : 0 < S.size, S[0]'h = c := ⟨_, rfl, by rw [bs_size]; simp, rfl⟩
    have hsz : S.size = r.length + 1 := by rw [← hS, bs_size]; rfl
    obtain ⟨n1, n2⟩ := nonempty_of h0
    have i1 : (0 : Int) < (S.size : Int) := by omega
    have HRB : Hid (rb (c :: r) = if c = 119 then ([], 1, 0) else if c = 109 then (if r.length < 32 then ([], 0, 4) else (r.take 32, 33, 0)) else ([], 0, 6)) := hideIt rfl
    have hl : r.length ≤ 100000000 := by simp at hL; omega
    have si : (S.size : Int) ≤ 100000001 := by omega
    rw [hS] at hex ⊢
    have HC := hideIt hc
    clear hS hL
    by_cases c1 : c = 119
    · have y1 : ((S[0]'h0).toNat : Int) = 119 := by rw [hc, c1]; rfl
      have HV : Hid (rbV (rb (c :: r)) = .tuple #[.string ⟨#[]⟩, .int .i64 1, .int .i64 0]) := hideIt (by rw [HRB.out, if_pos c1]; rfl)
      rw [HV.out]
      clear hc c1
      go_enter Tryd.func53, Tryd.ntmps53
      go_wp2
      go_ret3
      exact ⟨rfl, rfl⟩
    · obtain ⟨u, hu⟩ : ∃ u, c.toNat = u := ⟨_, rfl⟩
      have y1 : ((S[0]'h0).toNat : Int) = (u : Int) := by rw [hc, hu]
      have u1 : ¬ (u : Int) = 119 := by
        intro e
        apply c1
        have : c.toNat = 119 := by omega
        exact UInt8.toNat_inj.1 this
      have u2 : ((u : Int) == 119) = false := beq_eq_false_iff_ne.2 u1
      by_cases c2 : c = 109
      · have v1 : (u : Int) = 109 := by rw [← hu, c2]; rfl
        have y2 : ((S[0]'h0).toNat : Int) = 109 := by rw [y1, v1]
        clear y1
        by_cases h32 : r.length < 32
        · have HV : Hid (rbV (rb (c :: r)) = .tuple #[.string ⟨#[]⟩, .int .i64 0, .int .i64 4]) := hideIt (by rw [HRB.out, if_neg c1, if_pos c2, if_pos h32]; rfl)
          have g1 : (S.size : Int) < 33 := by omega
          rw [HV.out]
          clear hc c1 c2 v1 u1 u2 hu
          go_enter Tryd.func53, Tryd.ntmps53
          go_wp2
          go_ret3
          exact ⟨rfl, rfl⟩
        · have HV : Hid (rbV (rb (c :: r)) = .tuple #[.string (bs (r.take 32)), .int .i64 33, .int .i64 0]) := hideIt (by rw [HRB.out, if_neg c1, if_pos c2, if_neg h32]; rfl)
          have g1 : ¬ (S.size : Int) < 33 := by omega
          have g2 : (33 : Int) ≤ (S.size : Int) := by omega
          have g3 : 33 ≤ S.size := by omega
          have g4 : ¬ S.size < 33 := by omega
          rw [HV.out]
          generalize bs (r.take 32) = T at hex ⊢
          clear hc c1 c2 v1 u1 u2 hu hsz h32 hl
          go_enter Tryd.func53, Tryd.ntmps53
          go_wp2
          go_ret3
          exact ⟨rfl, rfl⟩
      · have v1 : ¬ (u : Int) = 109 := by
          intro e
          apply c2
          have : c.toNat = 109 := by omega
          exact UInt8.toNat_inj.1 this
        have v2 : ((u : Int) == 109) = false := beq_eq_false_iff_ne.2 v1
        have HV : Hid (rbV (rb (c :: r)) = .tuple #[.string ⟨#[]⟩, .int .i64 0, .int .i64 6]) := hideIt (by rw [HRB.out, if_neg c1, if_neg c2]; rfl)
        rw [HV.out]
        clear hc c1 c2 hu
        go_enter Tryd.func53, Tryd.ntmps53
        go_wp2
        go_ret3
        exact ⟨rfl, rfl⟩
theorem rb_ok {L B : List UInt8} {k : Nat} (h : rb L = (B, k, 0)) : k ≤ L.length ∧ B.length ≤ 32 := by
  cases L with
  | nil => simp [rb] at h
  | cons c r =>
    rw [rb] at h
    split at h
    · simp only [Prod.mk.injEq] at h
      obtain ⟨rfl, rfl, _⟩ := h
      simp
    · split at h
      · split at h
        · simp at h
        · simp only [Prod.mk.injEq] at h
          obtain ⟨rfl, rfl, _⟩ := h
          simp
          omega
      · simp at h
/-- A variable that holds an item, as it stands in memory. -/
structure Box (w : World) (k : Nat) (x y : ByteArray) (z : Int) : Prop where
  c0 : w.cell? ⟨k, 0, none⟩ = some (.string x)
  c1 : w.cell? ⟨k, 1, none⟩ = some (.string y)
  c2 : w.cell? ⟨k, 2, none⟩ = some (.int .i64 z)
  f0 : w.frozen? ⟨k, 0, none⟩ = false
  f1 : w.frozen? ⟨k, 1, none⟩ = false
  f2 : w.frozen? ⟨k, 2, none⟩ = false
theorem cellAt {w : World} {g i : Nat} {cs : Array Value} {t : TypeId} {fr : Nat × Nat} {v : Value} (h : w.heap[g]? = some (.cells cs t fr)) (hv : cs[i]? = some v) : w.cell? ⟨g, i, none⟩ = some v := by simp [World.cell?, h, hv]
theorem Box.of {w : World} {k : Nat} {x y : ByteArray} {z : Int} {t : TypeId} (h : w.heap[k]? = some (.cells #[.string x, .string y, .int .i64 z] t (0, 0))) : Box w k x y z :=
  ⟨cellAt h rfl, cellAt h rfl, cellAt h rfl, Lib.frozen_of_heap h 0, Lib.frozen_of_heap h 1, Lib.frozen_of_heap h 2⟩
theorem put3 {w w1 : World} (h : Below w.heap.size w w1) (a b c : Value) : Below w.heap.size w (((w1.setCell ⟨w.heap.size, 0, none⟩ a).setCell ⟨w.heap.size, 1, none⟩ b).setCell ⟨w.heap.size, 2, none⟩ c) := ((h.setCell (p := ⟨w.heap.size, 0, none⟩) (Nat.le_refl _) _).setCell (p := ⟨w.heap.size, 1, none⟩) (Nat.le_refl _) _).setCell (p := ⟨w.heap.size, 2, none⟩) (Nat.le_refl _) _
theorem results_c3 {fn : Func} {p u v : Tmp} {ty : TypeId} (h : fn.results = #[.cell p ty, .tmp u, .tmp v]) (tmps : Array Value) (P : Program) (w : World) :
    (results fn tmps).run P w = ((asAddr (tmps.getD p undef)).run P w).andThen fun a w₁ => ((loadVar ty a).run P w₁).andThen fun x w₂ => .ok (.tuple #[x, tmps.getD u undef, tmps.getD v undef]) w₂ := by
  simp only [results, h]
  simp [Sem.run_bind, Result.andThen]
def itA (b d : List UInt8) (z : Int) : Value := .agg #[.string (bs b), .string (bs d), .int .i64 z]
/-- An item that was read at a place. -/
def riV (r : Ri) (a : Nat) : Value := if r.e = 0 then .tuple #[itA r.b r.d (a : Int), .int .i64 ((a + r.k : Nat) : Int), .int .i64 0] else .tuple #[itA [] [] 0, .int .i64 0, .int .i64 (r.e : Int)]
set_option maxHeartbeats 3200000 in
set_option maxRecDepth 100000 in
theorem readItem_any (S : List UInt8) (a : Nat) (w : World) (ha : a ≤ S.length) (hS : S.length ≤ 10000000) :
    Calls Tryd.prog 43 #[.string (bs S), .int .i64 (a : Int)] w fun e w' => e = .returned (riV (ri spPp (S.drop a)) a) ∧ Below w.heap.size w w' := by
  have HRB := hideIt (fun w => readBase_any (S.drop a) w (by simp; omega))
  have hex0 := drop_bs S a
  obtain ⟨B, k, z, hrb⟩ : ∃ B k z, rb (S.drop a) = (B, k, z) := ⟨_, _, _, rfl⟩
  have HRI : Hid (ri spPp (S.drop a) = if z ≠ 0 then ⟨[], [], 0, z⟩ else riB spPp B k ((S.drop a).drop k)) := hideIt (by rw [ri, hrb])
  have HOK := hideIt (rb_ok (L := S.drop a) (B := B) (k := k))
  rw [hrb] at HRB HOK
  simp only [rbV] at HRB
  obtain ⟨N, hN⟩ : ∃ N, (bs S).size = N := ⟨_, rfl⟩
  have hNl : N = S.length := by rw [← hN, bs_size]
  obtain ⟨T, hT⟩ : ∃ T, bs S = T := ⟨_, rfl⟩
  obtain ⟨T1, hT1⟩ : ∃ T1, bs (S.drop a) = T1 := ⟨_, rfl⟩
  have HT := hideIt hT
  rw [hT1] at HRB
  rw [hT, hT1, ← hT, hN, hT] at hex0
  have hTs : T.size = N := by rw [← hT]; exact hN
  have a1 : (a : Int) ≤ (N : Int) := by omega
  have nI : (N : Int) ≤ 10000000 := by omega
  obtain ⟨W, hW⟩ : ∃ W, w.alloc (.cells #[.string ⟨#[]⟩, .string ⟨#[]⟩, .int .i64 0] 37) = W := ⟨_, rfl⟩
  have HBW : Hid (Below w.heap.size w W) := hideIt (by rw [← hW]; exact (Below.refl _ _).alloc (Nat.le_refl _) _)
  have HKW : Hid (∀ w1, Below W.heap.size W w1 → Box w1 w.heap.size ⟨#[]⟩ ⟨#[]⟩ 0) := hideIt (fun w1 h1 => by
    have : W.heap[w.heap.size]? = some (.cells #[.string ⟨#[]⟩, .string ⟨#[]⟩, .int .i64 0] 37 (0, 0)) := by rw [← hW]; exact alloc_at rfl
    exact Box.of (t := 37) (by rw [h1.block _ (by rw [← hW]; simp)]; exact this))
  rw [hT]
  clear hT hT1 hN hrb
  by_cases hz : z = 0
  · subst hz
    rw [if_neg (by simp)] at HRI
    obtain ⟨hk, hB⟩ := HOK.out rfl
    have hk2 : a + k ≤ S.length := by simp at hk; omega
    obtain ⟨b, hb⟩ : ∃ b, a + k = b := ⟨_, rfl⟩
    have b1 : (a : Int) + (k : Int) = (b : Int) := by omega
    have b2 : (b : Int) ≤ (N : Int) := by omega
    rw [List.drop_drop, hb] at HRI
    have HU := hideIt (fun w => unnum_any (bs (S.drop b)) w (by rw [bs_size]; simp; omega))
    rw [bs_list] at HU
    have huk := Lz.unnum_k (S.drop b)
    have hex1 := drop_bs S b
    obtain ⟨n, j, z2, hu⟩ : ∃ n j z, Cd.unnum (S.drop b) = (n, j, z) := ⟨_, _, _, rfl⟩
    have HRI2 : Hid (ri spPp (S.drop a) = if z2 ≠ 0 then ⟨[], [], 0, z2⟩ else riN spPp B (k + j) ((S.drop b).drop j) n) := hideIt (by rw [HRI.out, riB, hu])
    rw [hu] at HU huk
    simp only [unV] at HU
    simp only at huk
    obtain ⟨T2, hT2⟩ : ∃ T2, bs (S.drop b) = T2 := ⟨_, rfl⟩
    rw [hT2] at HU
    rw [HT.out, hT2, hTs] at hex1
    have HB := hideIt hB
    clear hk hu hT2 HRI hB
    by_cases hz2 : z2 = 0
    · subst hz2
      have huk2 : b + j ≤ S.length := by simp at huk; omega
      obtain ⟨c, hc⟩ : ∃ c, b + j = c := ⟨_, rfl⟩
      have c1 : (b : Int) + (j : Int) = (c : Int) := by omega
      have c2 : (c : Int) ≤ (N : Int) := by omega
      obtain ⟨m, hm⟩ : ∃ m, N - c = m := ⟨_, rfl⟩
      have m1 : (N : Int) - (c : Int) = (m : Int) := by omega
      have hml : (S.drop c).length = m := by simp; omega
      have HRI3 : Hid (ri spPp (S.drop a) = riN spPp B (k + j) (S.drop c) n) := hideIt (by rw [HRI2.out, if_neg (by simp), List.drop_drop, hc])
      clear HRI2 huk
      by_cases hnm : n ≤ m
      · have q1 : ¬ (m : Int) < (n : Int) := by omega
        have q2 : decide ((m : Int) < (n : Int)) = false := decide_eq_false q1
        have q3 : ¬ m < n := by omega
        obtain ⟨d, hd⟩ : ∃ d, c + n = d := ⟨_, rfl⟩
        have d1 : (c : Int) + (n : Int) = (d : Int) := by omega
        have d2 : (d : Int) ≤ (N : Int) := by omega
        have d3 : (c : Int) ≤ (d : Int) := by omega
        have nB : (n : Int) ≤ 10000000 := by omega
        have hex2 := ext_bs S c n
        have HSP := hideIt (fun w => spread_gen ((S.drop c).take n) 1048576 w (by simp; omega))
        have HRI4 : Hid (ri spPp (S.drop a) = if (spPp ((S.drop c).take n)).1 ≠ 0 then ⟨[], [], 0, (spPp ((S.drop c).take n)).1⟩ else ⟨B, (spPp ((S.drop c).take n)).2, k + j + n, 0⟩) := hideIt (by rw [HRI3.out, riN, if_neg (by omega)])
        have HSE : Hid (spPp ((S.drop c).take n) = Lz.spP ((S.drop c).take n) 1048576) := hideIt rfl
        rw [hd] at hex2
        obtain ⟨X, hX⟩ : ∃ X, (S.drop c).take n = X := ⟨_, rfl⟩
        rw [hX] at hex2 HSP HRI4 HSE
        obtain ⟨z3, D, hsp⟩ : ∃ z D, Lz.spP X 1048576 = (z, D) := ⟨_, _, rfl⟩
        rw [HSE.out, hsp] at HRI4
        rw [hsp] at HSP
        simp only at HSP
        obtain ⟨T3, hT3⟩ : ∃ T3, bs X = T3 := ⟨_, rfl⟩
        rw [hT3] at HSP
        rw [HT.out, hT3] at hex2
        have HCL := hideIt (fun w => clone_any (bs B) w (by rw [bs_size]; have := HB.out; omega))
        obtain ⟨BB, hBB⟩ : ∃ BB, bs B = BB := ⟨_, rfl⟩
        obtain ⟨DD, hDD⟩ : ∃ DD, bs D = DD := ⟨_, rfl⟩
        rw [hBB] at HCL HRB
        rw [hDD] at HSP
        have HBD := hideIt (And.intro hBB hDD)
        have HS := hideIt (And.intro hb (And.intro hc hd))
        clear hX hsp hT3 hBB hDD HRI3 HSE hb hc hd hm hml hnm huk2 hk2 hNl ha hS
        by_cases hz3 : z3 = 0
        · subst hz3
          rw [if_neg (by simp)] at HRI4
          rw [HRI4.out, riV]
          simp only [if_true]
          go_enter Tryd.func43, Tryd.ntmps43
          go_wp2_with (first | (go_at_call 53; refine (HRB.out _).mono ?_; rintro e wx ⟨rfl, hwx⟩; obtain rfl := hwx.symm) | (go_at_call 25; refine (HU.out _).mono ?_; rintro e wx ⟨rfl, hwx⟩; obtain rfl := hwx.symm) | (go_at_call 54; refine (HSP.out _).mono ?_; rintro e w1 ⟨rfl, hb1⟩) | (go_at_call 55; refine (HCL.out _).mono ?_; rintro e w2 ⟨rfl, hb2⟩; obtain ⟨k0, k1, k2, f0, f1, f2⟩ := HKW.out w2 (below2 hb1 hb2)))
          (try simp only [Exit.inBlock, Exit.then])
          obtain ⟨hBB, hDD⟩ := HBD.out
          obtain ⟨e1, e2, e3⟩ := HS.out
          refine bodyPost_ret (v := .tuple #[.agg #[.string BB, .string DD, .int .i64 (a : Int)], .int .i64 (d : Int), .int .i64 0]) ?_ rfl ⟨?_, ?_⟩
          · rw [results_c3 rfl]
            go_simp
          · rw [itA, hBB, hDD, show a + (k + j + n) = d by omega]
          · exact put3 (below2 HBW.out (below2 hb1 hb2)) _ _ _
        · rw [if_pos hz3] at HRI4
          have w1 : ¬ (z3 : Int) = 0 := by omega
          have w2 : ((z3 : Int) != 0) = true := by simpa using w1
          have w3 : ((z3 : Int) == 0) = false := by simpa using w1
          rw [HRI4.out, riV]
          simp only [hz3, if_false]
          clear hz3
          go_enter Tryd.func43, Tryd.ntmps43
          go_wp2_with (first | (go_at_call 53; refine (HRB.out _).mono ?_; rintro e wx ⟨rfl, hwx⟩; obtain rfl := hwx.symm) | (go_at_call 25; refine (HU.out _).mono ?_; rintro e wx ⟨rfl, hwx⟩; obtain rfl := hwx.symm) | (go_at_call 54; refine (HSP.out _).mono ?_; rintro e w1 ⟨rfl, hb1⟩; obtain ⟨k0, k1, k2, f0, f1, f2⟩ := HKW.out w1 hb1))
          (try simp only [Exit.inBlock, Exit.then])
          refine bodyPost_ret (v := .tuple #[.agg #[.string ⟨#[]⟩, .string ⟨#[]⟩, .int .i64 0], .int .i64 0, .int .i64 (z3 : Int)]) ?_ rfl ⟨rfl, ?_⟩
          · rw [results_c3 rfl]
            go_simp
          · exact put3 (below2 HBW.out hb1) _ _ _
      · have q1 : (m : Int) < (n : Int) := by omega
        have q2 : decide ((m : Int) < (n : Int)) = true := decide_eq_true q1
        have q3 : m < n := by omega
        have HRI4 : Hid (ri spPp (S.drop a) = ⟨[], [], 0, 4⟩) := hideIt (by rw [HRI3.out, riN, if_pos (by omega)])
        rw [HRI4.out]
        have HE : Hid (riV ⟨[], [], 0, 4⟩ a = .tuple #[.agg #[.string ⟨#[]⟩, .string ⟨#[]⟩, .int .i64 0], .int .i64 0, .int .i64 4]) := hideIt rfl
        rw [HE.out]
        clear HRI3 hm hml hnm huk2 hk2 hNl ha hS hb hc
        obtain ⟨k0, k1, k2, f0, f1, f2⟩ := HKW.out W (Below.refl _ _)
        go_enter Tryd.func43, Tryd.ntmps43
        go_wp2_with (first | (go_at_call 53; refine (HRB.out _).mono ?_; rintro e wx ⟨rfl, hwx⟩; obtain rfl := hwx.symm) | (go_at_call 25; refine (HU.out _).mono ?_; rintro e wx ⟨rfl, hwx⟩; obtain rfl := hwx.symm))
        (try simp only [Exit.inBlock, Exit.then])
        refine bodyPost_ret (v := .tuple #[.agg #[.string ⟨#[]⟩, .string ⟨#[]⟩, .int .i64 0], .int .i64 0, .int .i64 4]) ?_ rfl ⟨rfl, ?_⟩
        · rw [results_c3 rfl]
          go_simp
        · exact put3 HBW.out _ _ _
    · rw [if_pos hz2] at HRI2
      have w1 : ¬ (z2 : Int) = 0 := by omega
      have w2 : ((z2 : Int) != 0) = true := by simpa using w1
      have w3 : ((z2 : Int) == 0) = false := by simpa using w1
      rw [HRI2.out, riV]
      simp only [hz2, if_false]
      clear hz2 huk hk2 hNl ha hS hb
      obtain ⟨k0, k1, k2, f0, f1, f2⟩ := HKW.out W (Below.refl _ _)
      go_enter Tryd.func43, Tryd.ntmps43
      go_wp2_with (first | (go_at_call 53; refine (HRB.out _).mono ?_; rintro e wx ⟨rfl, hwx⟩; obtain rfl := hwx.symm) | (go_at_call 25; refine (HU.out _).mono ?_; rintro e wx ⟨rfl, hwx⟩; obtain rfl := hwx.symm))
      (try simp only [Exit.inBlock, Exit.then])
      refine bodyPost_ret (v := .tuple #[.agg #[.string ⟨#[]⟩, .string ⟨#[]⟩, .int .i64 0], .int .i64 0, .int .i64 (z2 : Int)]) ?_ rfl ⟨rfl, ?_⟩
      · rw [results_c3 rfl]
        go_simp
      · exact put3 HBW.out _ _ _
  · rw [if_pos hz] at HRI
    have w1 : ¬ (z : Int) = 0 := by omega
    have w2 : ((z : Int) != 0) = true := by simpa using w1
    have w3 : ((z : Int) == 0) = false := by simpa using w1
    rw [HRI.out, riV]
    simp only [hz, if_false]
    clear hz hNl ha hS
    obtain ⟨k0, k1, k2, f0, f1, f2⟩ := HKW.out W (Below.refl _ _)
    go_enter Tryd.func43, Tryd.ntmps43
    go_wp2_with (first | (go_at_call 53; refine (HRB.out _).mono ?_; rintro e wx ⟨rfl, hwx⟩; obtain rfl := hwx.symm))
    (try simp only [Exit.inBlock, Exit.then])
    refine bodyPost_ret (v := .tuple #[.agg #[.string ⟨#[]⟩, .string ⟨#[]⟩, .int .i64 0], .int .i64 0, .int .i64 (z : Int)]) ?_ rfl ⟨rfl, ?_⟩
    · rw [results_c3 rfl]
      go_simp
    · exact put3 HBW.out _ _ _
end Go.Proofs.YtjiigdjopcegeaaDoor.Pk
namespace Go.Proofs.YtjiigdjopcegeaaDoor.Pk
open Cb Ld Go.RowKit Go.Shelf
def itV (x : It) : List Value := [.string (bs x.b), .string (bs x.d), .int .i64 x.pl]
def itsV (l : List It) : List Value := l.flatMap itV
theorem itsV_len : ∀ l : List It, (itsV l).length = l.length * 3
  | [] => rfl
  | x :: t => by
    have := itsV_len t
    unfold itsV at this ⊢
    simp [itV] at this ⊢
    omega
theorem itsV_at : ∀ (l : List It) (j : Nat) (x : It), l[j]? = some x → (itsV l)[j * 3]? = some (.string (bs x.b)) ∧ (itsV l)[j * 3 + 1]? = some (.string (bs x.d)) ∧ (itsV l)[j * 3 + 2]? = some (.int .i64 x.pl)
  | [], j, x, h => by simp at h
  | y :: t, 0, x, h => by
    simp at h
    subst h
    exact ⟨rfl, rfl, rfl⟩
  | y :: t, j + 1, x, h => by
    have h' : t[j]? = some x := by simpa using h
    obtain ⟨a, b, c⟩ := itsV_at t j x h'
    have e : itsV (y :: t) = .string (bs y.b) :: .string (bs y.d) :: .int .i64 y.pl :: itsV t := rfl
    rw [e, show (j + 1) * 3 = j * 3 + 1 + 1 + 1 by omega]
    exact ⟨by simpa using a, by simpa using b, by simpa using c⟩
theorem itsV_snoc (l : List It) (x : It) : itsV (l ++ [x]) = itsV l ++ [.string (bs x.b), .string (bs x.d), .int .i64 x.pl] := by simp [itsV, itV]
theorem block_lt {w : World} {g : Nat} {o : Obj} (h : w.heap[g]? = some o) : g < w.heap.size := by
  rcases Nat.lt_or_ge g w.heap.size with h' | h'
  · exact h'
  · simp [Array.getElem?_eq_none h'] at h
/-- Items that lie in memory one behind the other. -/
def ICells (w : World) (b o : Nat) (l : List It) : Prop := b < w.heap.size ∧ ∀ (i : Nat) (x : It), l[i]? = some x → w.cell? ⟨b, o + i * 3, none⟩ = some (.string (bs x.b)) ∧ w.cell? ⟨b, o + i * 3 + 1, none⟩ = some (.string (bs x.d)) ∧ w.cell? ⟨b, o + i * 3 + 2, none⟩ = some (.int .i64 x.pl)
def IRow (w : World) (v : Value) (l : List It) : Prop := ∃ a c, v = .slice a l.length c ∧ l.length ≤ c ∧ (c ≤ maxLen ∧ (a = none → c = 0)) ∧ (0 < l.length → ∃ b o, a = some ⟨b, o, none⟩ ∧ ICells w b o l)
theorem ICells.below {w w' : World} {b o : Nat} {l : List It} (h : ICells w b o l) (hb : Below w.heap.size w w') : ICells w' b o l :=
  ⟨Nat.lt_of_lt_of_le h.1 hb.size, fun i x hx => by
    obtain ⟨h1, h2, h3⟩ := h.2 i x hx
    exact ⟨by rw [hb.cell (p := ⟨b, o + i * 3, none⟩) h.1]; exact h1, by rw [hb.cell (p := ⟨b, o + i * 3 + 1, none⟩) h.1]; exact h2, by rw [hb.cell (p := ⟨b, o + i * 3 + 2, none⟩) h.1]; exact h3⟩⟩
theorem IRow.below {w w' : World} {v : Value} {l : List It} (h : IRow w v l) (hb : Below w.heap.size w w') : IRow w' v l := by
  obtain ⟨a, c, h1, h2, h3, h4⟩ := h
  refine ⟨a, c, h1, h2, h3, fun h0 => ?_⟩
  obtain ⟨b, o, e, hc⟩ := h4 h0
  exact ⟨b, o, e, hc.below hb⟩
theorem IRow.nil (w : World) : IRow w (.slice none 0 0) [] := ⟨none, 0, rfl, Nat.le_refl _, ⟨Nat.zero_le _, fun _ => rfl⟩, fun h => by simp at h⟩
theorem IRow.of_row {w : World} {B : Nat} {t : TypeId} {v : Value} {l : List It} (h : w.ownsRow B t 3 v l.length (itsV l)) : IRow w v l := by
  rcases h.2 with ⟨e, h0⟩ | ⟨g, cap, cur, e, h1, hg, h2, h3, r⟩
  · exact ⟨none, 0, by rw [e, h0], by omega, ⟨by unfold maxLen; omega, fun _ => rfl⟩, fun hp => by omega⟩
  · subst e
    refine ⟨some ⟨g, 0, none⟩, cap, rfl, h2, ⟨h3, fun h => by cases h⟩, fun _ => ⟨g, 0, rfl, block_lt hg, fun j x hj => ?_⟩⟩
    have hl : j < l.length := (List.getElem?_eq_some_iff.1 hj).1
    obtain ⟨a, b, c⟩ := itsV_at l j x hj
    refine ⟨?_, ?_, ?_⟩
    · rw [Nat.zero_add, h.cellAt (j * 3) (by omega), a]
    · rw [Nat.zero_add, h.cellAt (j * 3 + 1) (by omega), b]
    · rw [Nat.zero_add, h.cellAt (j * 3 + 2) (by omega), c]
theorem own_below {w w' : World} {B n s : Nat} {t : TypeId} {v : Value} {xs : List Value} (h : w.ownsRow B t s v n xs) (hb : Below w.heap.size w w') : w'.ownsRow B t s v n xs := by
  refine ⟨h.1, ?_⟩
  rcases h.2 with h0 | ⟨g, cap, cur, e, h1, hg, r⟩
  · exact .inl h0
  · exact .inr ⟨g, cap, cur, e, h1, (hb.block g (block_lt hg)).trans hg, r⟩
theorem infoI : (Tryd.prog.info? 37).map (fun i => (i.zero, i.size, i.bytes)) = some (some (.agg #[.string ⟨#[]⟩, .string ⟨#[]⟩, .int .i64 0]), 3, 40) := by kernel_rfl
theorem three_new {w : World} (x y : ByteArray) (z : Int) (t : TypeId) (j : Nat) (u : Value) (h : [Value.string x, .string y, .int .i64 z][j]? = some u) : (w.alloc (.cells #[.string x, .string y, .int .i64 z] t)).cell? ((⟨w.heap.size, 0, none⟩ : Addr).add j) = some u := by
  have hrow : (w.alloc (.cells #[.string x, .string y, .int .i64 z] t)).heap[w.heap.size]? = some (.cells #[.string x, .string y, .int .i64 z] t (0, 0)) := alloc_at rfl
  match j, h with
  | 0, h => exact cellAt hrow (by simpa using h)
  | 1, h => exact cellAt hrow (by simpa using h)
  | 2, h => exact cellAt hrow (by simpa using h)
  | j + 3, h => simp at h
theorem row_ge {B n s : Nat} {t : TypeId} {v : Value} {xs : List Value} {w : World} (h : w.ownsRow B t s v n xs) : ∀ k, v.ownBlock = some k → B ≤ k := by
  intro k hk
  rcases h.2 with ⟨e, _⟩ | ⟨g, cap, cur, e, h1, _⟩
  · subst e; simp [Value.ownBlock] at hk
  · subst e; simp [Value.ownBlock] at hk; omega
theorem riN_k {sp : List UInt8 → Nat × List UInt8} {B R : List UInt8} {k n : Nat} (h : (riN sp B k R n).e = 0) : (riN sp B k R n).k = k + n ∧ n ≤ R.length := by
  unfold riN at h ⊢
  by_cases h1 : R.length < n
  · rw [if_pos h1] at h; simp at h
  · rw [if_neg h1] at h ⊢
    by_cases h2 : (sp (R.take n)).1 = 0
    · rw [if_neg (by simpa using h2)]
      exact ⟨rfl, by omega⟩
    · rw [if_pos h2] at h
      exact absurd h h2
theorem ri_k {sp : List UInt8 → Nat × List UInt8} {L : List UInt8} (h : (ri sp L).e = 0) : (ri sp L).k ≤ L.length := by
  unfold ri at h ⊢
  by_cases h1 : (rb L).2.2 = 0
  · rw [if_neg (by simpa using h1)] at h ⊢
    have hk := (rb_ok (L := L) (B := (rb L).1) (k := (rb L).2.1) (Prod.ext rfl (Prod.ext rfl h1))).1
    unfold riB at h ⊢
    by_cases h2 : (Cd.unnum (L.drop (rb L).2.1)).2.2 = 0
    · rw [if_neg (by simpa using h2)] at h ⊢
      have hu := Lz.unnum_k (L.drop (rb L).2.1)
      obtain ⟨e, hn⟩ := riN_k h
      rw [e]
      simp only [List.length_drop] at hu hn
      omega
    · rw [if_pos h2] at h
      exact absurd h h2
  · rw [if_pos h1] at h
    exact absurd h h1
/-- What is behind some items that were read. -/
def comb (acc : List It) (r : Nat × List It) : Nat × List It := if r.1 ≠ 0 then (r.1, []) else (0, acc ++ r.2)
theorem comb_nil (r : Nat × List It) (h : r.1 ≠ 0 → r.2 = []) : comb [] r = r := by
  obtain ⟨a, b⟩ := r
  unfold comb
  by_cases ha : a = 0
  · subst ha; simp
  · have hb := h ha
    simp only at hb
    rw [if_pos ha, hb]
theorem ris_err {sp : List UInt8 → Nat × List UInt8} {S : List UInt8} : ∀ (n left a : Nat), (ris sp S n left a).1 ≠ 0 → (ris sp S n left a).2 = []
  | 0, left, a, h => by
    rw [ris] at h ⊢
    split <;> rfl
  | n + 1, left, a, h => by
    rw [ris] at h ⊢
    by_cases h1 : (ri sp (S.drop a)).e = 0
    · rw [if_neg (by simpa using h1)] at h ⊢
      by_cases h2 : left < (ri sp (S.drop a)).d.length
      · rw [if_pos h2]
      · rw [if_neg h2] at h ⊢
        split
        · rfl
        · rename_i h3
          rw [if_neg h3] at h
          exact absurd rfl h
    · rw [if_pos h1]
theorem comb_err (acc : List It) (e : Nat) (h : e ≠ 0) : comb acc (e, []) = (e, []) := by simp [comb, h]
theorem comb_snoc (acc : List It) (x : It) (r : Nat × List It) : comb acc (if r.1 ≠ 0 then (r.1, []) else (0, x :: r.2)) = comb (acc ++ [x]) r := by
  obtain ⟨a, b⟩ := r
  by_cases ha : a = 0
  · subst ha; simp [comb]
  · simp [comb, ha]
/-- What was scanned. -/
def ScTo (T : TypeId) (w : World) (r : Nat × List It) (e : Ending) (w' : World) : Prop := ∃ v, e = .returned (.tuple #[v, .int .i64 (r.1 : Int)]) ∧ w'.ownsRow w.heap.size T 3 v r.2.length (itsV r.2) ∧ Below w.heap.size w w'
set_option maxHeartbeats 3200000 in
set_option maxRecDepth 100000 in
theorem readItems_any (S : List UInt8) (a0 n : Nat) (w : World) (ha0 : a0 ≤ S.length) (hS : S.length ≤ 10000000) (hn : n ≤ 2048) :
    Calls Tryd.prog 26 #[.string (bs S), .int .i64 (a0 : Int), .int .i64 (n : Int)] w fun e w' => ScTo 37 w (ris spPp S n 16777216 a0) e w' := by
  obtain ⟨i0, hi0, hz0, hz1, hz2⟩ := info_parts infoI
  have HRI := hideIt (fun a w h => readItem_any S a w h hS)
  obtain ⟨R, hR⟩ : ∃ R, ris spPp S n 16777216 a0 = R := ⟨_, rfl⟩
  have HT : Hid (∀ e w', ScTo 37 w R e w' ↔ ∃ v, e = .returned (.tuple #[v, .int .i64 (R.1 : Int)]) ∧ w'.ownsRow w.heap.size 37 3 v R.2.length (itsV R.2) ∧ Below w.heap.size w w') := hideIt (fun _ _ => Iff.rfl)
  have HR0 : Hid (comb [] (ris spPp S n 16777216 a0) = R) := hideIt (by rw [← hR]; exact comb_nil _ (ris_err n _ _))
  rw [hR]
  clear hR
  have nI : (n : Int) ≤ 2048 := by omega
  obtain ⟨N, hN⟩ : ∃ N, S.length = N := ⟨_, rfl⟩
  have HNN := hideIt hN
  obtain ⟨T, hT⟩ : ∃ T, bs S = T := ⟨_, rfl⟩
  have hTs : T.size = N := by rw [← hT, bs_size, hN]
  rw [hT] at HRI ⊢
  rw [hN] at HRI hS ha0
  clear hT hN
  go_enter Tryd.func26, Tryd.ntmps26
  go_wp2
  go_loopw [1, 8, 9, 14] (fun ta tv tl ti wr => ∃ (i a left : Nat) (acc : List It), i ≤ n ∧ a ≤ N ∧ left ≤ 16777216 ∧ ta = .int .i64 (a : Int) ∧ tl = .int .i64 (left : Int) ∧ ti = .int .i64 (i : Int) ∧ acc.length = i ∧ Hid (comb acc (ris spPp S (n - i) left a) = R) ∧ wr.ownsRow w.heap.size 37 3 tv acc.length (itsV acc) ∧ Below w.heap.size w wr) (fun _ _ _ ti _ => n - (intOf ti).toNat)
  case atStart => exact ⟨0, a0, 16777216, [], by omega, ha0, by omega, rfl, rfl, rfl, rfl, by simpa using HR0, ⟨rfl, .inl ⟨rfl, rfl⟩⟩, Below.refl _ _⟩
  case round =>
    obtain ⟨i, a, left, acc, hi, ha, hleft, rfl, rfl, rfl, hacc, HD, hrow, hb⟩ := hrel
    have HO := hideIt hrow
    have HB := hideIt hb
    have hws : w.heap.size ≤ wr.heap.size := hb.size
    have leI : (left : Int) ≤ 16777216 := by omega
    clear hrow hb
    by_cases hlt : i < n
    · have hid : decide ((i : Int) < (n : Int)) = true := decide_eq_true (by omega)
      have i1 : (i : Int) < (n : Int) := by omega
      have HR1 := hideIt (HRI.out a wr ha)
      obtain ⟨m, hm⟩ : ∃ m, n - i = m + 1 := ⟨n - i - 1, by omega⟩
      have hm2 : n - (i + 1) = m := by omega
      have HKK := hideIt (ri_k (sp := spPp) (L := S.drop a))
      have HST : Hid (ris spPp S (m + 1) left a = if (ri spPp (S.drop a)).e ≠ 0 then ((ri spPp (S.drop a)).e, []) else if left < (ri spPp (S.drop a)).d.length then (3, []) else if (ris spPp S m (left - (ri spPp (S.drop a)).d.length) (a + (ri spPp (S.drop a)).k)).1 ≠ 0 then ((ris spPp S m (left - (ri spPp (S.drop a)).d.length) (a + (ri spPp (S.drop a)).k)).1, []) else (0, ⟨(ri spPp (S.drop a)).b, (ri spPp (S.drop a)).d, (a : Int)⟩ :: (ris spPp S m (left - (ri spPp (S.drop a)).d.length) (a + (ri spPp (S.drop a)).k)).2)) := hideIt rfl
      rw [hm] at HD
      obtain ⟨⟨b, d, k, z⟩, hr⟩ : ∃ r, ri spPp (S.drop a) = r := ⟨_, rfl⟩
      rw [hr] at HR1 HST HKK
      simp only at HST HKK
      clear hr
      by_cases hz : z = 0
      · subst hz
        have HR2 : Hid (Calls Tryd.prog 43 #[.string T, .int .i64 (a : Int)] wr fun e w' => e = .returned (.tuple #[.agg #[.string (bs b), .string (bs d), .int .i64 (a : Int)], .int .i64 ((a + k : Nat) : Int), .int .i64 0]) ∧ Below wr.heap.size wr w') := HR1
        have hk : a + k ≤ N := by have := HKK.out rfl; rw [List.length_drop, HNN.out] at this; omega
        obtain ⟨a2, ha2⟩ : ∃ a2, a + k = a2 := ⟨_, rfl⟩
        rw [ha2] at HR2 HST hk
        rw [if_neg (by simp)] at HST
        obtain ⟨q, hq⟩ : ∃ q, (bs d).size = q := ⟨_, rfl⟩
        have hq2 : d.length = q := by rw [← hq, bs_size]
        rw [hq2] at HST
        obtain ⟨X, hX⟩ : ∃ X, bs b = X := ⟨_, rfl⟩
        obtain ⟨Y, hY⟩ : ∃ Y, bs d = Y := ⟨_, rfl⟩
        have HXY := hideIt (And.intro hX hY)
        rw [hX, hY] at HR2
        have hYs : Y.size = q := by rw [← hY]; exact hq
        clear hX hY hq hq2 HR1 HKK
        by_cases hl : left < q
        · have l1 : (left : Int) < (q : Int) := by omega
          have l2 : decide ((left : Int) < (q : Int)) = true := decide_eq_true l1
          have HD2 : Hid (R = (3, [])) := hideIt (by rw [← HD.out, HST.out, if_pos hl]; exact comb_err _ _ (by omega))
          clear HD HST ha2 hm hm2
          go_wp2_with (first | (go_at_call 43; refine HR2.out.mono ?_; rintro e w1 ⟨rfl, hb1⟩))
          go_ret2
          refine (HT.out _ _).2 ⟨.slice none 0 0, ?_, ?_, below2 HB.out (below2 hb1 ((Below.refl _ _).alloc (Nat.le_refl _) _))⟩
          · rw [HD2.out]; rfl
          · rw [HD2.out]; exact ⟨rfl, .inl ⟨rfl, rfl⟩⟩
        · have l1 : ¬ (left : Int) < (q : Int) := by omega
          have l2 : decide ((left : Int) < (q : Int)) = false := decide_eq_false l1
          obtain ⟨p, hp⟩ : ∃ p, left - q = p := ⟨_, rfl⟩
          have p1 : (left : Int) - (q : Int) = (p : Int) := by omega
          have p2 : p ≤ 16777216 := by omega
          rw [if_neg hl, hp] at HST
          have HD2 : Hid (comb (acc ++ [⟨b, d, (a : Int)⟩]) (ris spPp S m p a2) = R) := hideIt (by rw [← comb_snoc, ← HST.out]; exact HD.out)
          have HTN : Hid (∀ (w1 : World) (j : Nat) (u : Value), [Value.string X, .string Y, .int .i64 (a : Int)][j]? = some u → ((w1.alloc (.cells #[.string X, .string Y, .int .i64 (a : Int)] 37)).alloc (.cells #[.string X, .string Y, .int .i64 (a : Int)] 37)).cell? ((⟨w1.heap.size + 1, 0, none⟩ : Addr).add j) = some u) := hideIt (fun w1 j u h => by
            have := three_new (w := w1.alloc (.cells #[.string X, .string Y, .int .i64 (a : Int)] 37)) X Y (a : Int) 37 j u h
            simpa using this)
          have HAC := hideIt hacc
          rw [hacc] at HO
          obtain ⟨av, cv, hv, hle, hcm, _⟩ := IRow.of_row (l := acc) (by rw [hacc]; exact HO.out)
          rw [hacc] at hv
          subst hv
          clear HD HST ha2 hm hp hl hle hcm hacc
          go_wp2_with (first | (go_at_call 43; refine HR2.out.mono ?_; rintro e w1 ⟨rfl, hb1⟩; have hw1 : wr.heap.size ≤ w1.heap.size := hb1.size; have HO1 := hideIt (own_below HO.out hb1); have HB1 := hideIt (below2 HB.out hb1)) | (at_builtin; refine wpList_append_own _ rfl _ _ 22 rfl w.heap.size 37 i0 (.agg #[.string ⟨#[]⟩, .string ⟨#[]⟩, .int .i64 0]) 3 40 Tryd.underlying22 hi0 hz0 hz1 hz2 rfl (by decide) _ _ _ rfl ((HO1.out.alloc _).alloc _) ⟨w1.heap.size + 1, 0, none⟩ 1 1 [.string X, .string Y, .int .i64 (a : Int)] rfl rfl (HTN.out w1) (fun u hu => by simp at hu; rcases hu with rfl | rfl | rfl <;> rfl) (by unfold maxLen; omega) (by omega) (by simp; omega) ?_; intro v3 w3 hown3 hg3 hnil3))
          go_roundw
          case rel =>
            refine ⟨i + 1, a2, p, acc ++ [⟨b, d, (a : Int)⟩], by omega, hk, p2, rfl, rfl, by go_num, by simp [HAC.out], by rw [hm2]; exact HD2, ?_, ?_⟩
            · rw [itsV_snoc]
              simp only [HXY.out.1, HXY.out.2]
              simpa [HAC.out] using hown3
            · exact Below.grown ((HB1.out.alloc (by omega) _).alloc (by simp; omega) _) hg3 (by simp; omega) (row_ge HO.out)
          case measure => simp [intOf]; omega
      · have HR2 : Hid (Calls Tryd.prog 43 #[.string T, .int .i64 (a : Int)] wr fun e w' => e = .returned (.tuple #[.agg #[.string ⟨#[]⟩, .string ⟨#[]⟩, .int .i64 0], .int .i64 0, .int .i64 (z : Int)]) ∧ Below wr.heap.size wr w') := hideIt (by have := HR1.out; rw [riV] at this; simp only [hz, if_false] at this; exact this)
        have z1 : ¬ (z : Int) = 0 := by omega
        have z2 : ((z : Int) != 0) = true := by simpa using z1
        have z3 : ((z : Int) == 0) = false := by simpa using z1
        have HD2 : Hid (R = (z, [])) := hideIt (by rw [← HD.out, HST.out, if_pos hz]; exact comb_err _ _ hz)
        clear HR1 HD HST HKK hz hm hm2
        go_wp2_with (first | (go_at_call 43; refine HR2.out.mono ?_; rintro e w1 ⟨rfl, hb1⟩))
        go_ret2
        refine (HT.out _ _).2 ⟨.slice none 0 0, ?_, ?_, below2 HB.out (below2 hb1 ((Below.refl _ _).alloc (Nat.le_refl _) _))⟩
        · rw [HD2.out]; rfl
        · rw [HD2.out]; exact ⟨rfl, .inl ⟨rfl, rfl⟩⟩
    · have hid : decide ((i : Int) < (n : Int)) = false := decide_eq_false (by omega)
      obtain rfl : i = n := by omega
      have HZ : Hid (ris spPp S (i - i) left a = if a < N then (5, []) else (0, [])) := hideIt (by rw [Nat.sub_self, ris, HNN.out])
      by_cases hlt2 : a < N
      · have g1 : (a : Int) < (N : Int) := by omega
        have g2 : decide ((a : Int) < (N : Int)) = true := decide_eq_true g1
        have HD2 : Hid (R = (5, [])) := hideIt (by rw [← HD.out, HZ.out, if_pos hlt2]; exact comb_err _ _ (by omega))
        clear HD HZ
        go_wp2
        go_ret2
        refine (HT.out _ _).2 ⟨.slice none 0 0, ?_, ?_, HB.out⟩
        · rw [HD2.out]; rfl
        · rw [HD2.out]; exact ⟨rfl, .inl ⟨rfl, rfl⟩⟩
      · have g1 : ¬ (a : Int) < (N : Int) := by omega
        have g2 : decide ((a : Int) < (N : Int)) = false := decide_eq_false g1
        have HD2 : Hid (R = (0, acc)) := hideIt (by rw [← HD.out, HZ.out, if_neg hlt2]; simp [comb])
        clear HD HZ
        go_wp2
        go_ret2
        refine (HT.out _ _).2 ⟨u8, ?_, ?_, HB.out⟩
        · rw [HD2.out]; rfl
        · rw [HD2.out]; exact HO.out
end Go.Proofs.YtjiigdjopcegeaaDoor.Pk
namespace Go.Proofs.YtjiigdjopcegeaaDoor.Pk
open Cb Ld Go.RowKit Go.Shelf
/-- Does a text begin with another one? -/
def pre (a p : ByteArray) : Bool := decide (p.size ≤ a.size) && ((a.extract 0 p.size).toList == p.toList)
set_option maxHeartbeats 400000 in
theorem slpre_any (a p : ByteArray) (w : World) :
    Calls Tryd.prog 42 #[.string a, .string p] w fun e w' => e = .returned (.bool (pre a p)) ∧ w' = w := by
  obtain ⟨n, hn⟩ : ∃ n, a.size = n := ⟨_, rfl⟩
  obtain ⟨m, hm⟩ : ∃ m, p.size = m := ⟨_, rfl⟩
  have hn' : (a.size : Int) = (n : Int) := by rw [hn]
  have hm' : (p.size : Int) = (m : Int) := by rw [hm]
  by_cases h : m ≤ n
  · have c1 : (m : Int) ≤ (n : Int) := by omega
    have c2 : decide ((m : Int) ≤ (n : Int)) = true := by simpa using h
    have HP : Hid (pre a p = ((a.extract 0 m).toList == p.toList)) := hideIt (by rw [pre, hm, hn]; simp [h])
    obtain ⟨x, hx⟩ : ∃ x, ((a.extract 0 m).toList == p.toList) = x := ⟨_, rfl⟩
    rw [hx] at HP
    have b0 : (0 : Int) ≤ (m : Int) := by omega
    cases x
    all_goals
      go_enter Tryd.func42, Tryd.ntmps42
      go_wp2
      go_ret
      exact ⟨by rw [HP.out]; try rfl, rfl⟩
  · have c1 : ¬ (m : Int) ≤ (n : Int) := by omega
    have c2 : decide ((m : Int) ≤ (n : Int)) = false := by simp; omega
    have HP : Hid (pre a p = false) := hideIt (by rw [pre, hm, hn]; simp [h])
    go_enter Tryd.func42, Tryd.ntmps42
    go_wp2
    go_ret
    exact ⟨by rw [HP.out]; try rfl, rfl⟩
theorem hasPrefix_any (a p : ByteArray) (w : World) :
    Calls Tryd.prog 24 #[.string a, .string p] w fun e w' => e = .returned (.bool (pre a p)) ∧ w' = w := by
  have H := hideIt (fun w => slpre_any a p w)
  go_enter Tryd.func24, Tryd.ntmps24
  go_wp2_with (first | (go_at_call 42; refine (H.out _).mono ?_; rintro e wx ⟨rfl, hwx⟩; obtain rfl := hwx.symm))
  go_ret
  exact ⟨rfl, rfl⟩
theorem pre_title (S : List UInt8) : pre (bs S) ⟨#[112, 111, 108, 108, 97, 114, 100, 32, 112, 97, 99, 107, 10]⟩ = decide (S.take 13 = titleL) := by
  have e1 : (⟨#[112, 111, 108, 108, 97, 114, 100, 32, 112, 97, 99, 107, 10]⟩ : ByteArray).size = 13 := rfl
  have e2 : (⟨#[112, 111, 108, 108, 97, 114, 100, 32, 112, 97, 99, 107, 10]⟩ : ByteArray).toList = titleL := by rw [ByteArray.toList_eq]; rfl
  rw [pre, e1, e2, take_bs, ByteArray.toList_eq, bs_list, bs_size]
  by_cases h : S.take 13 = titleL
  · have hl : 13 ≤ S.length := by
      have := congrArg List.length h
      rw [List.length_take] at this
      have h2 : titleL.length = 13 := rfl
      omega
    simp [h, hl]
  · rw [decide_eq_false h, Bool.and_eq_false_iff]
    exact .inr (beq_eq_false_iff_ne.2 h)
set_option maxHeartbeats 400000 in
theorem bodyOf_any (p : List UInt8) (w : World) (h : 32 ≤ p.length) (hp : p.length ≤ 10000000) :
    Calls Tryd.prog 23 #[.string (bs p)] w fun e w' => e = .returned (.string (bs (p.take (p.length - 32)))) ∧ w' = w := by
  have hex := take_bs p (p.length - 32)
  obtain ⟨k, hk⟩ : ∃ k, p.length - 32 = k := ⟨_, rfl⟩
  obtain ⟨P, hP⟩ : ∃ P, bs p = P := ⟨_, rfl⟩
  have hs : P.size = p.length := by rw [← hP, bs_size]
  have k1 : (P.size : Int) - 32 = (k : Int) := by omega
  have k2 : (k : Int) ≤ (P.size : Int) := by omega
  have k3 : (P.size : Int) ≤ 10000000 := by omega
  rw [hk, hP] at hex
  rw [hk, hP]
  generalize bs (p.take k) = Q at hex ⊢
  clear hP hs hk
  go_enter Tryd.func23, Tryd.ntmps23
  go_wp2
  go_ret
  exact ⟨rfl, rfl⟩
theorem sha_bs (M : List UInt8) : Sa.Sha.sha M = bs (shaL M) := (bs_data _).symm
theorem bs_eq (a b : List UInt8) : ((bs a).toList == (bs b).toList) = decide (a = b) := by
  rw [ByteArray.toList_eq, ByteArray.toList_eq, bs_list, bs_list]
  by_cases h : a = b
  · subst h; simp
  · rw [decide_eq_false h, beq_eq_false_iff_ne]; exact h
/-- The sum that stands at a pack's end. -/
def sumV (p : List UInt8) : List UInt8 := if sumE p = 0 then p.drop (p.length - 32) else []
theorem sumOf_any (M : List UInt8) (w : World) (hK : Sa.KAt w) (h : M.length < 100000000) : Calls Tryd.prog 17 #[.string (bs M)] w fun e w' => e = .returned (.string (bs (shaL M))) ∧ Below w.heap.size w w' := by
  have := Sa.of_any (bs M) w hK (by rw [bs_size]; exact h)
  rw [bs_list, sha_bs] at this
  exact this
set_option maxHeartbeats 800000 in
set_option maxRecDepth 100000 in
theorem sum_any (p : List UInt8) (w : World) (hK : Sa.KAt w) (hp : p.length ≤ 10000000) :
    Calls Tryd.prog 22 #[.string (bs p)] w fun e w' => e = .returned (.tuple #[.string (bs (sumV p)), .int .i64 (sumE p : Int)]) ∧ Below w.heap.size w w' := by
  have HE : Hid (sumE p = if 4194304 < p.length then 3 else if p.length < 32 then 4 else if shaL (p.take (p.length - 32)) = p.drop (p.length - 32) then 0 else 80) := hideIt rfl
  have HV : Hid (sumV p = if sumE p = 0 then p.drop (p.length - 32) else []) := hideIt rfl
  have hs : (bs p).size = p.length := bs_size p
  have HBO := hideIt (fun w h => bodyOf_any p w h hp)
  have HSO := hideIt (fun w h => sumOf_any (p.take (p.length - 32)) w h (by simp; omega))
  have hex := drop_bs p (p.length - 32)
  obtain ⟨n, hn⟩ : ∃ n, p.length = n := ⟨_, rfl⟩
  have be : bs [] = (⟨#[]⟩ : ByteArray) := rfl
  by_cases h1 : 4194304 < n
  · have HE2 : Hid (sumE p = 3) := hideIt (by rw [HE.out, if_pos (by omega)])
    have HV2 : Hid (sumV p = []) := hideIt (by rw [HV.out, HE2.out]; rfl)
    rw [HE2.out, HV2.out, be]
    generalize bs p = P at hs hex ⊢
    have g1 : (4194304 : Int) < (P.size : Int) := by omega
    have g2 : (P.size : Int) ≤ 10000000 := by omega
    clear HE HV hex hs hn HBO HSO
    go_enter Tryd.func22, Tryd.ntmps22
    go_wp2
    go_ret2
    exact ⟨rfl, Below.refl _ _⟩
  · by_cases h2 : n < 32
    · have HE2 : Hid (sumE p = 4) := hideIt (by rw [HE.out, if_neg (by omega), if_pos (by omega)])
      have HV2 : Hid (sumV p = []) := hideIt (by rw [HV.out, HE2.out]; rfl)
      rw [HE2.out, HV2.out, be]
      generalize bs p = P at hs hex ⊢
      have g1 : ¬ (4194304 : Int) < (P.size : Int) := by omega
      have g2 : (P.size : Int) < 32 := by omega
      clear HE HV hex hs hn HBO HSO
      go_enter Tryd.func22, Tryd.ntmps22
      go_wp2
      go_ret2
      exact ⟨rfl, Below.refl _ _⟩
    · have HB1 := hideIt (fun w => HBO.out w (by omega))
      have HS1 := hideIt (HSO.out w hK)
      have hbl : (bs (p.take (p.length - 32))).size = n - 32 := by rw [bs_size, List.length_take]; omega
      have hcmp := bs_eq (shaL (p.take (p.length - 32))) (p.drop (p.length - 32))
      obtain ⟨k, hk⟩ : ∃ k, n - 32 = k := ⟨_, rfl⟩
      rw [hn] at hex hs
      rw [hk] at hbl hex
      have hpk : p.length - 32 = k := by omega
      rw [hpk] at HE HV HB1 HS1 hbl hcmp
      generalize bs p = P at hs hex HB1 ⊢
      have g1 : ¬ (4194304 : Int) < (P.size : Int) := by omega
      have g2 : ¬ (P.size : Int) < 32 := by omega
      have g3 : (k : Int) ≤ (P.size : Int) := by omega
      have g4 : P.extract k P.size = bs (p.drop k) := by rw [← hex, hs]
      have HE1 : Hid (sumE p = if shaL (p.take k) = p.drop k then 0 else 80) := hideIt (by rw [HE.out, if_neg (by omega), if_neg (by omega)])
      have g5 : (P.size : Int) ≤ 10000000 := by omega
      by_cases h3 : shaL (p.take k) = p.drop k
      · rw [decide_eq_true h3] at hcmp
        have HE2 : Hid (sumE p = 0) := hideIt (by rw [HE1.out, if_pos h3])
        have HV2 : Hid (bs (sumV p) = bs (shaL (p.take k))) := hideIt (by rw [HV.out, HE2.out, if_pos rfl, h3])
        rw [HE2.out, HV2.out]
        generalize bs (p.drop k) = D at hcmp g4
        generalize bs (shaL (p.take k)) = X at hcmp HS1 ⊢
        generalize bs (p.take k) = Q at HB1 HS1 hbl
        clear HE HV HE1 hex hs hn HBO HSO h3 hpk hk h1 h2 HV2 HE2
        go_enter Tryd.func22, Tryd.ntmps22
        go_wp2_with (first | (go_at_call 23; refine (HB1.out _).mono ?_; rintro e wx ⟨rfl, hwx⟩; obtain rfl := hwx.symm) | (go_at_call 17; refine HS1.out.mono ?_; rintro e w1 ⟨rfl, hb1⟩))
        go_ret2
        exact ⟨rfl, hb1⟩
      · rw [decide_eq_false h3] at hcmp
        have HE2 : Hid (sumE p = 80) := hideIt (by rw [HE1.out, if_neg h3])
        have HV2 : Hid (sumV p = []) := hideIt (by rw [HV.out, HE2.out]; rfl)
        rw [HE2.out, HV2.out, be]
        generalize bs (p.drop k) = D at hcmp g4
        generalize bs (shaL (p.take k)) = X at hcmp HS1
        generalize bs (p.take k) = Q at HB1 HS1 hbl
        clear HE HV HE1 hex hs hn HBO HSO h3 hpk hk h1 h2 HV2 HE2
        go_enter Tryd.func22, Tryd.ntmps22
        go_wp2_with (first | (go_at_call 23; refine (HB1.out _).mono ?_; rintro e wx ⟨rfl, hwx⟩; obtain rfl := hwx.symm) | (go_at_call 17; refine HS1.out.mono ?_; rintro e w1 ⟨rfl, hb1⟩))
        go_ret2
        exact ⟨rfl, hb1⟩
theorem ScTo.err {T : TypeId} {w w' : World} {r : Nat × List It} {z : Nat} (h : r = (z, [])) (hb : Below w.heap.size w w') : ScTo T w r (.returned (.tuple #[.slice none 0 0, .int .i64 (z : Int)])) w' := by
  subst h
  exact ⟨_, rfl, ⟨rfl, .inl ⟨rfl, rfl⟩⟩, hb⟩
theorem ScTo.after {T : TypeId} {w w1 w' : World} {r : Nat × List It} {e : Ending} (hb : Below w.heap.size w w1) (h : ScTo T w1 r e w') : ScTo T w r e w' := by
  obtain ⟨v, h1, h2, h3⟩ := h
  refine ⟨v, h1, ⟨h2.1, ?_⟩, below2 hb h3⟩
  rcases h2.2 with h | ⟨g, cap, cur, e, h4, h5⟩
  · exact .inl h
  · exact .inr ⟨g, cap, cur, e, Nat.le_trans hb.size h4, h5⟩
set_option maxHeartbeats 1600000 in
set_option maxRecDepth 100000 in
theorem scan_any (p : List UInt8) (w : World) (hK : Sa.KAt w) (hp : p.length ≤ 10000000) :
    Calls Tryd.prog 10 #[.string (bs p)] w fun e w' => ScTo 37 w (scn spPp p) e w' := by
  have HS := hideIt (sum_any p w hK hp)
  have HE : Hid (sumE p = if 4194304 < p.length then 3 else if p.length < 32 then 4 else if shaL (p.take (p.length - 32)) = p.drop (p.length - 32) then 0 else 80) := hideIt rfl
  have HBO := hideIt (fun w h => bodyOf_any p w h hp)
  have HX : Hid (scn spPp p = if sumE p ≠ 0 then (sumE p, []) else scB spPp (p.take (p.length - 32))) := hideIt rfl
  obtain ⟨R, hR⟩ : ∃ R, scn spPp p = R := ⟨_, rfl⟩
  rw [hR] at HX ⊢
  have HT : Hid (∀ e w', ScTo 37 w R e w' ↔ ∃ v, e = .returned (.tuple #[v, .int .i64 (R.1 : Int)]) ∧ w'.ownsRow w.heap.size 37 3 v R.2.length (itsV R.2) ∧ Below w.heap.size w w') := hideIt (fun _ _ => Iff.rfl)
  obtain ⟨z, hz⟩ : ∃ z, sumE p = z := ⟨_, rfl⟩
  rw [hz] at HX HS
  by_cases h0 : z = 0
  · have hl : 32 ≤ p.length := by
      rcases Nat.lt_or_ge p.length 32 with h | h
      · rw [hz, if_neg (by omega), if_pos h] at HE
        have := HE.out
        omega
      · exact h
    subst h0
    rw [if_neg (by simp)] at HX
    have HB1 := hideIt (fun w => HBO.out w hl)
    obtain ⟨S, hS⟩ : ∃ S, p.take (p.length - 32) = S := ⟨_, rfl⟩
    rw [hS] at HX HB1
    have hSl : S.length ≤ 10000000 := by rw [← hS, List.length_take]; omega
    have HP := hideIt (fun w => hasPrefix_any (bs S) ⟨#[112, 111, 108, 108, 97, 114, 100, 32, 112, 97, 99, 107, 10]⟩ w)
    rw [pre_title] at HP
    have hex := drop_bs S 13
    have HU := hideIt (fun w => unnum_any (bs (S.drop 13)) w (by rw [bs_size]; simp; omega))
    rw [bs_list] at HU
    have huk := Lz.unnum_k (S.drop 13)
    have HSB : Hid (scB spPp S = if S.take 13 ≠ titleL then (6, []) else if (Cd.unnum (S.drop 13)).2.2 ≠ 0 then ((Cd.unnum (S.drop 13)).2.2, []) else if 2048 < (Cd.unnum (S.drop 13)).1 then (3, []) else ris spPp S (Cd.unnum (S.drop 13)).1 16777216 (13 + (Cd.unnum (S.drop 13)).2.1)) := hideIt rfl
    have HRI := hideIt (fun a n w h1 h2 => readItems_any S a n w h1 hSl h2)
    have hSs : (bs S).size = S.length := bs_size S
    obtain ⟨N, hN⟩ : ∃ N, S.length = N := ⟨_, rfl⟩
    rw [hN] at HRI hSs hSl
    obtain ⟨u, j, y, hu⟩ : ∃ n j z, Cd.unnum (S.drop 13) = (n, j, z) := ⟨_, _, _, rfl⟩
    rw [hu] at HU huk HSB
    simp only [unV] at HU
    simp only [List.length_drop, hN] at huk
    simp only at HSB
    by_cases ht : S.take 13 = titleL
    · rw [decide_eq_true ht] at HP
      rw [if_neg (by simpa using ht)] at HSB
      have h13 : 13 ≤ N := by
        have := congrArg List.length ht
        rw [List.length_take] at this
        have h2 : titleL.length = 13 := rfl
        omega
      generalize bs (S.drop 13) = T1 at hex HU
      generalize bs S = T at hex HU hSs HB1 HP HRI
      have t1 : (13 : Int) ≤ (T.size : Int) := by omega
      have t2 : (T.size : Int) ≤ 10000000 := by omega
      have hex2 : T.extract 13 T.size = T1 := hex
      by_cases hy : y = 0
      · subst hy
        rw [if_neg (by simp)] at HSB
        by_cases hu2 : 2048 < u
        · have w1 : (2048 : Int) < (u : Int) := by omega
          have HR2 : Hid (R = (3, [])) := hideIt (by rw [HX.out, HSB.out, if_pos hu2])
          clear HSB HX hR hz hu hS ht hN hSs hex hSl huk
          go_enter Tryd.func10, Tryd.ntmps10
          go_wp2_with (first | (go_at_call 22; refine HS.out.mono ?_; rintro e w1 ⟨rfl, hb1⟩) | (go_at_call 23; refine (HB1.out _).mono ?_; rintro e wx ⟨rfl, hwx⟩; obtain rfl := hwx.symm) | (go_at_call 24; refine (HP.out _).mono ?_; rintro e wx ⟨rfl, hwx⟩; obtain rfl := hwx.symm) | (go_at_call 25; refine (HU.out _).mono ?_; rintro e wx ⟨rfl, hwx⟩; obtain rfl := hwx.symm))
          go_ret2
          exact ScTo.err HR2.out hb1
        · have w1 : ¬ (2048 : Int) < (u : Int) := by omega
          have w2 : (u : Int) ≤ 2048 := by omega
          obtain ⟨a, ha⟩ : ∃ a, 13 + j = a := ⟨_, rfl⟩
          have a1 : (13 : Int) + (j : Int) = (a : Int) := by omega
          have a2 : (a : Int) ≤ 10000000 := by omega
          rw [if_neg hu2, ha] at HSB
          have HR2 : Hid (ris spPp S u 16777216 a = R) := hideIt (by rw [HX.out, HSB.out])
          have HRI2 := hideIt (fun w => HRI.out a u w (by omega) (by omega))
          rw [HR2.out] at HRI2
          clear HSB HX hR hz hu hS ht hN hSs hex hSl huk ha HRI hu2
          go_enter Tryd.func10, Tryd.ntmps10
          go_wp2_with (first | (go_at_call 22; refine HS.out.mono ?_; rintro e w1 ⟨rfl, hb1⟩) | (go_at_call 23; refine (HB1.out _).mono ?_; rintro e wx ⟨rfl, hwx⟩; obtain rfl := hwx.symm) | (go_at_call 24; refine (HP.out _).mono ?_; rintro e wx ⟨rfl, hwx⟩; obtain rfl := hwx.symm) | (go_at_call 25; refine (HU.out _).mono ?_; rintro e wx ⟨rfl, hwx⟩; obtain rfl := hwx.symm) | (go_at_call 26; refine (HRI2.out _).mono ?_; rintro e w2 hsc; obtain ⟨v, rfl, hv1, hv2⟩ := hsc))
          go_ret2
          exact ScTo.after hb1 ⟨v, rfl, hv1, hv2⟩
      · have w1 : ¬ (y : Int) = 0 := by omega
        have w2 : ((y : Int) != 0) = true := by simpa using w1
        have w3 : ((y : Int) == 0) = false := by simpa using w1
        have HR2 : Hid (R = (y, [])) := hideIt (by rw [HX.out, HSB.out, if_pos hy])
        clear HSB HX hR hz hu hS ht hN hSs hex hSl huk hy
        go_enter Tryd.func10, Tryd.ntmps10
        go_wp2_with (first | (go_at_call 22; refine HS.out.mono ?_; rintro e w1 ⟨rfl, hb1⟩) | (go_at_call 23; refine (HB1.out _).mono ?_; rintro e wx ⟨rfl, hwx⟩; obtain rfl := hwx.symm) | (go_at_call 24; refine (HP.out _).mono ?_; rintro e wx ⟨rfl, hwx⟩; obtain rfl := hwx.symm) | (go_at_call 25; refine (HU.out _).mono ?_; rintro e wx ⟨rfl, hwx⟩; obtain rfl := hwx.symm))
        go_ret2
        exact ScTo.err HR2.out hb1
    · rw [decide_eq_false ht] at HP
      have HR2 : Hid (R = (6, [])) := hideIt (by rw [HX.out, HSB.out, if_pos ht])
      generalize bs S = T at hex HU hSs HB1 HP HRI
      clear HSB HX hR hz hu hS ht hN hSs hex hSl huk HU HRI
      go_enter Tryd.func10, Tryd.ntmps10
      go_wp2_with (first | (go_at_call 22; refine HS.out.mono ?_; rintro e w1 ⟨rfl, hb1⟩) | (go_at_call 23; refine (HB1.out _).mono ?_; rintro e wx ⟨rfl, hwx⟩; obtain rfl := hwx.symm) | (go_at_call 24; refine (HP.out _).mono ?_; rintro e wx ⟨rfl, hwx⟩; obtain rfl := hwx.symm))
      go_ret2
      exact ScTo.err HR2.out hb1
  · have w1 : ¬ (z : Int) = 0 := by omega
    have w2 : ((z : Int) != 0) = true := by simpa using w1
    have w3 : ((z : Int) == 0) = false := by simpa using w1
    have HR2 : Hid (R = (z, [])) := hideIt (by rw [HX.out, if_pos h0])
    clear HX hR hz h0
    go_enter Tryd.func10, Tryd.ntmps10
    go_wp2_with (first | (go_at_call 22; refine HS.out.mono ?_; rintro e w1 ⟨rfl, hb1⟩))
    go_ret2
    exact ScTo.err HR2.out hb1
end Go.Proofs.YtjiigdjopcegeaaDoor.Pk
