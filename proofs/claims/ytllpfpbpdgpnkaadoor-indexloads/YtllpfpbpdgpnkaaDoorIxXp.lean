/- Indexes: spots, their order and their bytes, as plain lists. -/
import Derived.Test.YtllpfpbpdgpnkaaDoorCbOwn
import Derived.Lib.Bytealg
namespace Go.Proofs.YtllpfpbpdgpnkaaDoor.Ix
open Cb Go.RowKit
theorem bl_irrefl : ∀ x : List UInt8, Op.bytesLess x x = false
  | [] => rfl
  | a :: x => by simp [Op.bytesLess, bl_irrefl x]
theorem bl_trans : ∀ x y z : List UInt8, Op.bytesLess x y = true → Op.bytesLess y z = true → Op.bytesLess x z = true
  | _, _, [], _, h => by simp [Op.bytesLess] at h
  | _, [], _ :: _, h, _ => by simp [Op.bytesLess] at h
  | [], _ :: _, _ :: _, _, _ => rfl
  | a :: x, b :: y, c :: z, h1, h2 => by
    simp only [Op.bytesLess, Bool.or_eq_true, decide_eq_true_eq, Bool.and_eq_true, beq_iff_eq] at h1 h2 ⊢
    rcases h1 with h1 | ⟨rfl, h1⟩
    · rcases h2 with h2 | ⟨rfl, h2⟩
      · exact .inl (UInt8.lt_trans h1 h2)
      · exact .inl h1
    · rcases h2 with h2 | ⟨rfl, h2⟩
      · exact .inl h2
      · exact .inr ⟨rfl, bl_trans x y z h1 h2⟩
theorem bl_total : ∀ x y : List UInt8, Op.bytesLess x y = false → Op.bytesLess y x = false → x = y
  | [], [], _, _ => rfl
  | [], _ :: _, h, _ => by simp [Op.bytesLess] at h
  | _ :: _, [], _, h => by simp [Op.bytesLess] at h
  | a :: x, b :: y, h1, h2 => by
    simp only [Op.bytesLess, Bool.or_eq_false_iff, decide_eq_false_iff_not, Bool.and_eq_false_iff, beq_eq_false_iff_ne, ne_eq] at h1 h2
    have hab : a = b := by
      apply UInt8.toNat_inj.1
      have h3 := h1.1
      have h4 := h2.1
      rw [UInt8.lt_iff_toNat_lt] at h3 h4
      omega
    subst hab
    rw [bl_total x y (by rcases h1.2 with h | h; exact absurd rfl h; exact h) (by rcases h2.2 with h | h; exact absurd rfl h; exact h)]
theorem cmp_bl : ∀ x y : List UInt8, Lib.compareBytes x y = if Op.bytesLess x y = true then -1 else if x = y then 0 else 1
  | [], [] => rfl
  | [], _ :: _ => rfl
  | _ :: _, [] => by simp [Lib.compareBytes, Op.bytesLess]
  | a :: x, b :: y => by
    rw [Lib.compareBytes, cmp_bl x y]
    simp only [Op.bytesLess, Bool.or_eq_true, decide_eq_true_eq, Bool.and_eq_true, beq_iff_eq, List.cons.injEq]
    by_cases h : a < b
    · simp [h]
    · by_cases h2 : b < a
      · have : a ≠ b := fun e => by subst e; exact h h2
        simp [h, h2, this]
      · have : a = b := by
          apply UInt8.toNat_inj.1
          rw [UInt8.lt_iff_toNat_lt] at h h2
          omega
        simp [this, UInt8.lt_irrefl]
theorem leq_eq (a b : List UInt8) : (Op.bytesLess a b || a == b) = !Op.bytesLess b a := by
  cases h1 : Op.bytesLess b a with
  | true =>
    have h2 : Op.bytesLess a b = false := by
      cases h : Op.bytesLess a b with
      | false => rfl
      | true => have := bl_trans _ _ _ h h1; rw [bl_irrefl] at this; cases this
    have h3 : (a == b) = false := by
      cases h : a == b with
      | false => rfl
      | true => have := beq_iff_eq.1 h; subst this; rw [bl_irrefl] at h1; cases h1
    rw [h2, h3]; rfl
  | false =>
    cases h : Op.bytesLess a b with
    | true => rfl
    | false => have := bl_total _ _ h h1; subst this; simp
def less (a b : ByteArray) : Bool := Op.bytesLess a.toList b.toList
theorem less_trans {a b c : ByteArray} (h1 : less a b = true) (h2 : less b c = true) : less a c = true := bl_trans _ _ _ h1 h2
theorem less_irrefl (a : ByteArray) : less a a = false := bl_irrefl _
theorem bytes_ext {a b : ByteArray} (h : a.data.toList = b.data.toList) : a = b := ByteArray.ext (Array.toList_inj.1 h)
theorem less_total {a b : ByteArray} (h1 : less a b = false) (h2 : less b a = false) : a = b := by
  apply bytes_ext
  have := bl_total _ _ h1 h2
  rwa [ByteArray.toList_eq, ByteArray.toList_eq] at this
theorem less_asymm {a b : ByteArray} (h : less a b = true) : less b a = false := by
  cases h2 : less b a with
  | false => rfl
  | true => have := less_trans h h2; rw [less_irrefl] at this; cases this
theorem less_of {a b : ByteArray} (h : less b a = false) (hn : a ≠ b) : less a b = true := by
  cases h2 : less a b with
  | true => rfl
  | false => exact absurd (less_total h2 h) hn
theorem cmp_lt (x t : ByteArray) : (Lib.compareBytes x.data.toList t.data.toList < 0 ↔ less x t = true) ∧ (Lib.compareBytes x.data.toList t.data.toList = 0 ↔ x = t) := by
  rw [cmp_bl, ← ByteArray.toList_eq, ← ByteArray.toList_eq]
  have e : x.toList = t.toList → x = t := fun h => bytes_ext (by rwa [ByteArray.toList_eq, ByteArray.toList_eq] at h)
  unfold less
  by_cases h1 : Op.bytesLess x.toList t.toList = true
  · have hne : ¬ x = t := fun h => by rw [h, bl_irrefl] at h1; cases h1
    simp [h1, hne]
  · by_cases h2 : x = t
    · simp [h2, bl_irrefl]
    · have h3 : ¬ x.toList = t.toList := fun h => h2 (e h)
      simp [h1, h2, h3]
/-- A spot: an id, and its place. -/
structure Sp where
  d : ByteArray
  pl : Int
def noSp : Sp := ⟨⟨#[]⟩, 0⟩
instance : Inhabited Sp := ⟨noSp⟩
/-- May a spot stand in an index? -/
def wrong (x : Sp) : Bool := decide (¬ x.d.size = 32) || decide (x.pl < 0) || decide (4194304 < x.pl)
/-- Ids that rise. -/
def Up (l : List Sp) : Prop := l.Pairwise (fun x y => less x.d y.d = true)
/-- Ids that do not fall. -/
def WUp (l : List Sp) : Prop := l.Pairwise (fun x y => less y.d x.d = false)
def pos (l : List Sp) (t : ByteArray) : Nat := l.countP (fun x => less x.d t)
def found (l : List Sp) (t : ByteArray) : Bool := match l[pos l t]? with
  | some x => decide (x.d = t)
  | none => false
theorem pos_le (l : List Sp) (t : ByteArray) : pos l t ≤ l.length := List.countP_le_length
theorem countP_at (p : Sp → Bool) : ∀ (l : List Sp) (i : Nat), i ≤ l.length → (∀ t x, t < i → l[t]? = some x → p x = true) → (∀ t x, i ≤ t → l[t]? = some x → p x = false) → l.countP p = i
  | [], i, hi, _, _ => by simp at hi; simp [hi]
  | a :: r, 0, _, _, h2 => by
    rw [List.countP_eq_zero]
    intro x hx
    obtain ⟨t, ht⟩ := List.mem_iff_getElem?.1 hx
    simp [h2 t x (Nat.zero_le _) ht]
  | a :: r, i + 1, hi, h1, h2 => by
    have ha : p a = true := h1 0 a (Nat.succ_pos _) rfl
    rw [List.countP_cons_of_pos ha, countP_at p r i (by simpa using hi) (fun t x ht hx => h1 (t + 1) x (by omega) (by simpa using hx)) (fun t x ht hx => h2 (t + 1) x (by omega) (by simpa using hx))]
theorem Up.at {l : List Sp} (h : Up l) {i j : Nat} {x y : Sp} (hij : i < j) (hx : l[i]? = some x) (hy : l[j]? = some y) : less x.d y.d = true := by
  obtain ⟨h1, rfl⟩ := List.getElem?_eq_some_iff.1 hx
  obtain ⟨h2, rfl⟩ := List.getElem?_eq_some_iff.1 hy
  exact List.pairwise_iff_getElem.1 h i j h1 h2 hij
/-- What stands ahead of an id's place is lesser; what stands behind is not. -/
theorem Up.parts : ∀ {l : List Sp}, Up l → ∀ (t : ByteArray), (∀ x ∈ l.take (pos l t), less x.d t = true) ∧ (∀ x ∈ l.drop (pos l t), less x.d t = false)
  | [], _, t => ⟨fun x hx => by simp [pos] at hx, fun x hx => by simp [pos] at hx⟩
  | a :: r, h, t => by
    have hr : Up r := (List.pairwise_cons.1 h).2
    have ha := (List.pairwise_cons.1 h).1
    obtain ⟨i1, i2⟩ := Up.parts hr t
    by_cases hl : less a.d t = true
    · have e : pos (a :: r) t = pos r t + 1 := List.countP_cons_of_pos (p := fun x : Sp => less x.d t) hl
      rw [e, List.take_succ_cons, List.drop_succ_cons]
      exact ⟨fun x hx => by rcases List.mem_cons.1 hx with rfl | hx; exact hl; exact i1 x hx, i2⟩
    · have hz : ∀ x ∈ r, less x.d t = false := fun x hx => by
        cases hh : less x.d t with
        | false => rfl
        | true => exact absurd (less_trans (ha x hx) hh) hl
      have e : pos (a :: r) t = 0 := by
        rw [pos, List.countP_eq_zero]
        intro x hx
        rcases List.mem_cons.1 hx with rfl | hx
        · exact hl
        · simp [hz x hx]
      rw [e]
      refine ⟨fun x hx => by simp at hx, fun x hx => ?_⟩
      rcases List.mem_cons.1 hx with rfl | hx
      · simpa using hl
      · exact hz x hx
theorem found_mem {l : List Sp} {t : ByteArray} (h : found l t = true) : ∃ x ∈ l, x.d = t := by
  unfold found at h
  split at h
  · rename_i x hx
    exact ⟨x, List.mem_of_getElem? hx, by simpa using h⟩
  · cases h
theorem found_of {l : List Sp} (hu : Up l) {t : ByteArray} {x : Sp} (hx : x ∈ l) (hd : x.d = t) : found l t = true ∧ l[pos l t]? = some x := by
  obtain ⟨i, hi⟩ := List.mem_iff_getElem?.1 hx
  have e : pos l t = i := by
    refine countP_at _ l i (Nat.le_of_lt (List.getElem?_eq_some_iff.1 hi).1) (fun j y hj hy => ?_) (fun j y hj hy => ?_)
    · rw [← hd]; exact hu.at hj hy hi
    · rcases Nat.lt_or_ge i j with h | h
      · rw [← hd]; exact less_asymm (hu.at h hi hy)
      · obtain rfl : i = j := by omega
        rw [hi] at hy
        cases hy
        rw [hd]
        exact less_irrefl _
  rw [found, e, hi]
  exact ⟨by simpa using hd, rfl⟩
/-- A spot laid at its place. -/
def insS (l : List Sp) (x : Sp) : List Sp := l.take (pos l x.d) ++ [x] ++ l.drop (pos l x.d)
theorem ins_perm (l : List Sp) (x : Sp) : (insS l x).Perm (l ++ [x]) := by
  unfold insS
  have h : l.take (pos l x.d) ++ l.drop (pos l x.d) = l := List.take_append_drop _ _
  have h2 : (l.take (pos l x.d) ++ [x] ++ l.drop (pos l x.d)).Perm (l.take (pos l x.d) ++ l.drop (pos l x.d) ++ [x]) := by
    rw [List.append_assoc, List.append_assoc]
    exact List.Perm.append_left _ List.perm_append_comm
  rwa [h] at h2
theorem ins_up {l : List Sp} {x : Sp} (hu : Up l) (hf : found l x.d = false) : Up (insS l x) := by
  obtain ⟨p1, p2⟩ := hu.parts x.d
  have hs : Up (l.take (pos l x.d)) := hu.sublist (List.take_sublist _ _)
  have hd : Up (l.drop (pos l x.d)) := hu.sublist (List.drop_sublist _ _)
  have hg : ∀ y ∈ l.drop (pos l x.d), less x.d y.d = true := fun y hy => less_of (p2 y hy) (fun e => by
    have := (found_of hu (List.mem_of_mem_drop hy) e.symm).1
    rw [hf] at this
    cases this)
  unfold insS Up
  rw [List.append_assoc, List.pairwise_append]
  refine ⟨hs, ?_, fun a ha b hb => ?_⟩
  · rw [List.singleton_append, List.pairwise_cons]
    exact ⟨hg, hd⟩
  · rcases List.mem_append.1 hb with hb | hb
    · rw [List.mem_singleton.1 hb]; exact p1 a ha
    · exact less_trans (p1 a ha) (hg b hb)
/-- The document's order: one spot behind the other is laid at its place. -/
def srtF : List Sp → List Sp → Option (List Sp)
  | acc, [] => some acc
  | acc, x :: r => if wrong x = true then none else if found acc x.d = true then none else srtF (insS acc x) r
def srt (pack : ByteArray) (l : List Sp) : Nat × List Sp :=
  if ¬ pack.size = 32 then (1, []) else if 2048 < l.length then (3, []) else match srtF [] l with
    | none => (1, [])
    | some m => (0, m)
theorem srtF_some : ∀ (l acc m : List Sp), Up acc → srtF acc l = some m → Up m ∧ m.Perm (acc ++ l) ∧ ∀ x ∈ l, wrong x = false
  | [], acc, m, hu, h => by
    simp only [srtF, Option.some.injEq] at h
    subst h
    exact ⟨hu, by simp, by simp⟩
  | x :: r, acc, m, hu, h => by
    rw [srtF] at h
    by_cases h1 : wrong x = true
    · rw [if_pos h1] at h; cases h
    · rw [if_neg h1] at h
      by_cases h2 : found acc x.d = true
      · rw [if_pos h2] at h; cases h
      · rw [if_neg h2] at h
        obtain ⟨a, b, c⟩ := srtF_some r (insS acc x) m (ins_up hu (by simpa using h2)) h
        refine ⟨a, b.trans ?_, fun y hy => ?_⟩
        · have := (ins_perm acc x).append_right r
          rwa [List.append_assoc, List.singleton_append] at this
        · rcases List.mem_cons.1 hy with rfl | hy
          · simpa using h1
          · exact c y hy
theorem Up.nodup {l : List Sp} (h : Up l) : (l.map Sp.d).Nodup := by
  rw [List.nodup_iff_pairwise_ne, List.pairwise_map]
  exact List.Pairwise.imp (fun {a b} hab e => by rw [e, less_irrefl] at hab; cases hab) h
theorem srtF_none : ∀ (l acc : List Sp), Up acc → srtF acc l = none → (∃ x ∈ l, wrong x = true) ∨ ¬ ((acc ++ l).map Sp.d).Nodup
  | [], acc, hu, h => by simp [srtF] at h
  | x :: r, acc, hu, h => by
    rw [srtF] at h
    by_cases h1 : wrong x = true
    · exact .inl ⟨x, by simp, h1⟩
    · rw [if_neg h1] at h
      by_cases h2 : found acc x.d = true
      · right
        obtain ⟨y, hy, he⟩ := found_mem h2
        intro hn
        rw [List.map_append, List.nodup_append] at hn
        exact hn.2.2 y.d (List.mem_map_of_mem hy) x.d (by simp) he
      · rw [if_neg h2] at h
        rcases srtF_none r (insS acc x) (ins_up hu (by simpa using h2)) h with ⟨y, hy, hw⟩ | hn
        · exact .inl ⟨y, by simp [hy], hw⟩
        · right
          intro hnn
          apply hn
          have hp := (ins_perm acc x).append_right r
          rw [List.append_assoc, List.singleton_append] at hp
          exact (hp.map Sp.d).nodup_iff.2 hnn
/-- Does an id stand twice in spots that do not fall? -/
def twiceL : List Sp → Bool
  | [] => false
  | [_] => false
  | x :: y :: r => decide (x.d = y.d) || twiceL (y :: r)
theorem twice_up : ∀ (l : List Sp), WUp l → (twiceL l = false ↔ Up l)
  | [], _ => ⟨fun _ => List.Pairwise.nil, fun _ => rfl⟩
  | [x], _ => ⟨fun _ => List.pairwise_singleton _ _, fun _ => rfl⟩
  | x :: y :: r, h => by
    have h1 := (List.pairwise_cons.1 h).1
    have h2 := (List.pairwise_cons.1 h).2
    have ih := twice_up (y :: r) h2
    constructor
    · intro ht
      simp only [twiceL, Bool.or_eq_false_iff, decide_eq_false_iff_not] at ht
      have hu := ih.1 ht.2
      have hxy : less x.d y.d = true := less_of (h1 y (by simp)) ht.1
      refine List.pairwise_cons.2 ⟨fun z hz => ?_, hu⟩
      rcases List.mem_cons.1 hz with rfl | hz
      · exact hxy
      · exact less_trans hxy ((List.pairwise_cons.1 hu).1 z hz)
    · intro hu
      have hxy := (List.pairwise_cons.1 hu).1 y (by simp)
      simp only [twiceL, Bool.or_eq_false_iff, decide_eq_false_iff_not]
      exact ⟨fun e => (by rw [e, less_irrefl] at hxy; cases hxy), ih.2 (List.pairwise_cons.1 hu).2⟩
theorem up_unique : ∀ {l m : List Sp}, Up l → Up m → l.Perm m → l = m
  | [], m, _, _, h => (List.nil_perm.1 h).symm
  | x :: l, [], _, _, h => absurd h.length_eq (by simp)
  | x :: l, y :: m, hl, hm, h => by
    have e : x = y := by
      rcases List.mem_cons.1 (h.mem_iff.1 (List.mem_cons_self (a := x) (l := l))) with e | hx
      · exact e
      · rcases List.mem_cons.1 (h.mem_iff.2 (List.mem_cons_self (a := y) (l := m))) with e | hy
        · exact e.symm
        · have a := (List.pairwise_cons.1 hm).1 x hx
          have b := (List.pairwise_cons.1 hl).1 y hy
          rw [less_asymm a] at b
          cases b
    subst e
    rw [up_unique (List.pairwise_cons.1 hl).2 (List.pairwise_cons.1 hm).2 (List.Perm.cons_inv h)]
/-- The program's way: all spots are right; they are sorted somehow; none stands twice. -/
theorem sorted_is {l m : List Sp} (hw : ∀ x ∈ l, wrong x = false) (hp : m.Perm l) (hs : WUp m) : srtF [] l = if twiceL m = true then none else some m := by
  cases h : srtF [] l with
  | some k =>
    obtain ⟨a, b, _⟩ := srtF_some l [] k List.Pairwise.nil h
    rw [List.nil_append] at b
    have hn : (m.map Sp.d).Nodup := ((hp.trans b.symm).map Sp.d).nodup_iff.2 a.nodup
    have hu : Up m := by
      rw [List.nodup_iff_pairwise_ne, List.pairwise_map] at hn
      exact (hs.and hn).imp (fun {a b} hab => less_of hab.1 hab.2)
    have ht := (twice_up m hs).2 hu
    rw [ht, if_neg (by simp), up_unique a hu (b.trans hp.symm)]
  | none =>
    rcases srtF_none l [] List.Pairwise.nil h with ⟨x, hx, hxw⟩ | hn
    · rw [hw x hx] at hxw; cases hxw
    · rw [List.nil_append] at hn
      cases ht : twiceL m with
      | true => simp
      | false => exact absurd ((hp.map Sp.d).nodup_iff.1 ((twice_up m hs).1 ht).nodup) hn
theorem sorted_wrong {l : List Sp} (h : l.any wrong = true) : srtF [] l = none := by
  cases hh : srtF [] l with
  | none => rfl
  | some m =>
    obtain ⟨x, hx, hw⟩ := List.any_eq_true.1 h
    rw [(srtF_some l [] m List.Pairwise.nil hh).2.2 x hx] at hw
    cases hw
/-- Spots that rise stay as they are. -/
theorem srtF_up : ∀ (l acc : List Sp), Up (acc ++ l) → (∀ x ∈ l, wrong x = false) → srtF acc l = some (acc ++ l)
  | [], acc, _, _ => by simp [srtF]
  | x :: r, acc, hu, hw => by
    have hx : ∀ y ∈ acc, less y.d x.d = true := fun y hy => (List.pairwise_append.1 hu).2.2 y hy x (by simp)
    have hp : pos acc x.d = acc.length := List.countP_eq_length.2 hx
    have hf : found acc x.d = false := by rw [found, hp, List.getElem?_eq_none (Nat.le_refl _)]
    have hi : insS acc x = acc ++ [x] := by rw [insS, hp]; simp
    rw [srtF, if_neg (by rw [hw x (by simp)]; simp), if_neg (by rw [hf]; simp), hi, srtF_up r (acc ++ [x]) (by simpa using hu) (fun y hy => hw y (by simp [hy]))]
    simp
end Go.Proofs.YtllpfpbpdgpnkaaDoor.Ix
