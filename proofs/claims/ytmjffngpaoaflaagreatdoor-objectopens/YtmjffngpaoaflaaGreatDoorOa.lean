/- Authors and commits: plain readings. -/
import Derived.Test.YtmjffngpaoaflaaGreatDoorOl
import Derived.Test.YtmjffngpaoaflaaGreatDoorOs
import Derived.Test.YtmjffngpaoaflaaGreatDoorTp
import Derived.Lib.SplitLaws
import Derived.Lib.ReplaceLaws
namespace Go.Proofs.YtmjffngpaoaflaaGreatDoor
namespace Ob
open Go.RowKit Go.Lib
/-- Every / replaced by another byte. -/
def rpL (c : UInt8) (l : List UInt8) : List UInt8 := l.map fun x => if x = 47 then c else x
theorem rpL_none (c : UInt8) (l : List UInt8) (h : (47 : UInt8) ∉ l) : rpL c l = l := by
  unfold rpL
  conv => rhs; rw [← List.map_id l]
  apply List.map_congr_left
  intro x hx
  by_cases e : x = 47
  · subst e; exact absurd hx h
  · rw [if_neg e]; rfl
theorem replace_rp (c : UInt8) : ∀ (n : Nat) (s : List UInt8), s.length ≤ n → Lib.replaceK [47] [c] (Lib.count s [47]) s = rpL c s := by
  intro n
  induction n with
  | zero =>
    intro s h
    have : s = [] := List.eq_nil_of_length_eq_zero (by omega)
    subst this
    rfl
  | succ n ih =>
    intro s h
    rcases cut_at 47 s with h0 | ⟨a, r, rfl, ha⟩
    · rw [Lib.count_miss (index_none 47 s h0), Lib.replaceK, rpL_none c s h0]
    · have hi := index_some 47 a r ha
      rw [Lib.count_hit (by simp) hi, Nat.add_comm, Lib.replaceK_hit _ _ _ _ _ hi]
      have hd : (a ++ 47 :: r).drop (a.length + ([47] : List UInt8).length) = r := by
        rw [List.drop_append]
        simp
      have ht : (a ++ 47 :: r).take a.length = a := by simp
      rw [hd, ht, ih r (by simp at h; omega)]
      have h2 := rpL_none c a ha
      unfold rpL at h2 ⊢
      rw [List.map_append, h2, List.map_cons]
      simp
theorem replaceAll_rp (c : UInt8) (hc : c ≠ 47) (s : List UInt8) : Lib.replaceAll s [47] [c] = rpL c s := by
  have h : ([47] == [c]) = false := by
    simp only [beq_eq_false_iff_ne, ne_eq, List.cons.injEq, and_true]
    exact fun e => hc e.symm
  rw [Lib.replaceAll, Lib.replace, h]
  simp only [Bool.false_eq_true, if_false]
  rw [show Lib.replaceNum s [47] (-1) = Lib.count s [47] by rw [Lib.replaceNum, if_pos (.inl (by decide))]]
  exact replace_rp c _ s (Nat.le_refl _)
theorem decodeN_cong (n b0 b1 b2 b3 d1 d2 d3 : Nat) (h1 : b1 = d1 ∨ (b1 < 128 ∧ d1 < 128)) (h2 : b2 = d2 ∨ (b2 < 128 ∧ d2 < 128)) (h3 : b3 = d3 ∨ (b3 < 128 ∧ d3 < 128)) : decodeN n b0 b1 b2 b3 = decodeN n b0 d1 d2 d3 := by
  have key : ∀ x y : Nat, (x = y ∨ (x < 128 ∧ y < 128)) → x = y ∨ (¬ x / 64 = 2 ∧ ¬ y / 64 = 2) := fun x y h => by omega
  rcases key b1 d1 h1 with rfl | ⟨p1, q1⟩
  · rcases key b2 d2 h2 with rfl | ⟨p2, q2⟩
    · rcases key b3 d3 h3 with rfl | ⟨p3, q3⟩
      · rfl
      · unfold decodeN; simp only [p3, q3, and_false, if_false]
    · unfold decodeN; simp only [p2, q2, and_false, false_and, if_false]
  · unfold decodeN; simp only [p1, q1, and_false, false_and, if_false]
theorem rp_get (c : UInt8) (l : List UInt8) (i : Nat) : (bs (rpL c l)).get! i = if l.getD i 0 = 47 then c else l.getD i 0 := by
  rw [Lb.get_list, bs_list, rpL, List.getD_eq_getElem?_getD, List.getElem?_map, List.getD_eq_getElem?_getD]
  cases l[i]? with
  | none => simp
  | some x => simp
theorem rp_size (c : UInt8) (l : List UInt8) : (bs (rpL c l)).size = l.length := by rw [bs_size, rpL, List.length_map]
/-- Which letter stands in /'s place is all the same. -/
theorem rp_all (c d : UInt8) (hc : c.toNat < 128 ∧ Lb.bar c.toNat = false) (hd : d.toNat < 128 ∧ Lb.bar d.toNat = false) (l : List UInt8) : ∀ (f pos : Nat), (Lb.runesF (bs (rpL c l)) f pos).all (fun x => !Lb.bar x.1) = (Lb.runesF (bs (rpL d l)) f pos).all (fun x => !Lb.bar x.1) := by
  intro f
  induction f with
  | zero => intro pos; rfl
  | succ f ih =>
    intro pos
    by_cases hp : pos < l.length
    · rw [Lb.runes_step _ f pos (by rw [rp_size]; exact hp), Lb.runes_step _ f pos (by rw [rp_size]; exact hp), List.all_cons, List.all_cons]
      rw [decode_at, decode_at, rp_size, rp_size]
      have hb : ∀ i, ((bs (rpL c l)).get! i).toNat = ((bs (rpL d l)).get! i).toNat ∨ (((bs (rpL c l)).get! i).toNat < 128 ∧ ((bs (rpL d l)).get! i).toNat < 128) := by
        intro i
        rw [rp_get, rp_get]
        by_cases h : l.getD i 0 = 47
        · rw [if_pos h, if_pos h]; exact .inr ⟨hc.1, hd.1⟩
        · rw [if_neg h, if_neg h]; exact .inl rfl
      by_cases h0 : l.getD pos 0 = 47
      · have e1 : ((bs (rpL c l)).get! pos).toNat = c.toNat := by rw [rp_get, if_pos h0]
        have e2 : ((bs (rpL d l)).get! pos).toNat = d.toNat := by rw [rp_get, if_pos h0]
        have g1 : ∀ b1 b2 b3, decodeN (l.length - pos) c.toNat b1 b2 b3 = (c.toNat, 1) := fun _ _ _ => by rw [decodeN, if_pos hc.1]
        have g2 : ∀ b1 b2 b3, decodeN (l.length - pos) d.toNat b1 b2 b3 = (d.toNat, 1) := fun _ _ _ => by rw [decodeN, if_pos hd.1]
        rw [e1, e2, g1, g2]
        simp only [hc.2, hd.2]
        rw [ih]
      · have e0 : ((bs (rpL c l)).get! pos).toNat = ((bs (rpL d l)).get! pos).toNat := by rw [rp_get, rp_get, if_neg h0, if_neg h0]
        rw [e0, decodeN_cong _ _ _ _ _ _ _ _ (hb (pos + 1)) (hb (pos + 2)) (hb (pos + 3)), ih]
    · rw [Lb.runes_end _ _ _ (by rw [rp_size]; exact hp), Lb.runes_end _ _ _ (by rw [rp_size]; exact hp)]
theorem rp_noName (c : UInt8) (hc : c ≠ 46) (l : List UInt8) : Lb.noName (rpL c l) = Lb.noName l := by
  have hf : ∀ x : UInt8, (if x = 47 then c else x) = 46 ↔ x = 46 := by
    intro x
    by_cases h : x = 47
    · rw [if_pos h]
      exact ⟨fun e => absurd e hc, fun e => by rw [h] at e; exact absurd e (by decide)⟩
    · rw [if_neg h]
  have h1 : (rpL c l == []) = (l == []) := by cases l <;> rfl
  have h2 : (rpL c l).length = l.length := by rw [rpL, List.length_map]
  have h3 : (rpL c l == [46]) = (l == [46]) := by
    rw [Bool.eq_iff_iff, beq_iff_eq, beq_iff_eq]
    match l with
    | [] => simp [rpL]
    | [x] => simp only [rpL, List.map_cons, List.map_nil, List.cons.injEq, and_true]; exact hf x
    | x :: y :: r => simp [rpL]
  have h4 : (rpL c l == [46, 46]) = (l == [46, 46]) := by
    rw [Bool.eq_iff_iff, beq_iff_eq, beq_iff_eq]
    match l with
    | [] => simp [rpL]
    | [x] => simp [rpL]
    | [x, y] => simp only [rpL, List.map_cons, List.map_nil, List.cons.injEq, and_true]; rw [hf x, hf y]
    | x :: y :: z :: r => simp [rpL]
  unfold Lb.noName
  rw [h1, h2, h3, h4]
/-- May a text be an author? -/
def autB (s : ByteArray) : Bool := Lb.nameB (bs (rpL 120 s.data.toList))
theorem aut_other (s : ByteArray) : Lb.nameB (bs (rpL 45 s.data.toList)) = autB s := by
  unfold autB Lb.nameB Lb.runes
  rw [bs_list, bs_list, rp_noName 45 (by decide), rp_noName 120 (by decide), rp_size, rp_size, rp_all 45 120 (by decide) (by decide)]
theorem get_mem10 (s : ByteArray) (i : Nat) : s.data.toList[i]? = some 10 → (s.get! i).toNat = 10 := by
  intro h
  rw [Lb.get_list, List.getD_eq_getElem?_getD, h]
  rfl
theorem runes_no10 (s : ByteArray) : ∀ (f pos : Nat), s.size ≤ f + pos → (Lb.runesF s f pos).all (fun d => !Lb.bar d.1) = true → ∀ i, pos ≤ i → s.data.toList[i]? ≠ some 10 := by
  intro f
  induction f with
  | zero =>
    intro pos h _ i hi
    rw [List.getElem?_eq_none (by rw [str_len]; omega)]
    simp
  | succ f ih =>
    intro pos h ha i hi
    by_cases hp : pos < s.size
    · rw [Lb.runes_step s f pos hp, List.all_cons, Bool.and_eq_true] at ha
      obtain ⟨ha1, ha2⟩ := ha
      have hw := Lb.width_pos s pos hp
      have hd := decodeN_low (s.size - pos) (s.get! pos).toNat (s.get! (pos + 1)).toNat (s.get! (pos + 2)).toNat (s.get! (pos + 3)).toNat
      rw [← decode_at] at hd
      by_cases hin : pos + (Utf8.decode s pos).2 ≤ i
      · exact ih _ (by omega) ha2 i hin
      · intro h0
        have hz := get_mem10 s i h0
        rcases hd with ⟨k, h1⟩ | ⟨k, h1, h2⟩ | ⟨k, h1, h2, h3⟩ | ⟨k, h1, h2, h3, h4⟩
        · obtain rfl : i = pos := by omega
          rcases h1 with h1 | h1
          · rw [h1, hz] at ha1
            exact absurd ha1 (by decide)
          · omega
        · rcases (by omega : i = pos ∨ i = pos + 1) with rfl | rfl <;> omega
        · rcases (by omega : i = pos ∨ i = pos + 1 ∨ i = pos + 2) with rfl | rfl | rfl <;> omega
        · rcases (by omega : i = pos ∨ i = pos + 1 ∨ i = pos + 2 ∨ i = pos + 3) with rfl | rfl | rfl | rfl <;> omega
    · rw [List.getElem?_eq_none (by rw [str_len]; omega)]
      simp
theorem aut_no10 {s : ByteArray} (h : autB s = true) : (10 : UInt8) ∉ s.data.toList := by
  unfold autB Lb.nameB Lb.runes at h
  rw [Bool.and_eq_true] at h
  intro h0
  have h1 : (10 : UInt8) ∈ rpL 120 s.data.toList := List.mem_map.2 ⟨10, h0, by decide⟩
  obtain ⟨i, hi⟩ := List.mem_iff_getElem?.1 h1
  exact runes_no10 (bs (rpL 120 s.data.toList)) _ 0 (by omega) h.2 i (by omega) (by rw [bs_list]; exact hi)
theorem aut_len {s : ByteArray} (h : autB s = true) : s.size ≤ 64 := by
  have := name_short _ h
  rw [rp_size, str_len] at this
  exact this
end Ob
end Go.Proofs.YtmjffngpaoaflaaGreatDoor
