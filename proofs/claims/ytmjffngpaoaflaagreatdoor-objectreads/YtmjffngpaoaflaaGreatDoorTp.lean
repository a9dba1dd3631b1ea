/- Trees: plain readings of entries and of their bytes. -/
import Derived.Test.YtmjffngpaoaflaaGreatDoorLbAll
namespace Go.Proofs.YtmjffngpaoaflaaGreatDoor
open Go.Lib
/-- An entry: a name, a mode, an id. -/
structure En where
  nm : ByteArray
  md : Int
  ids : ByteArray
instance : Inhabited En := ⟨⟨.empty, 0, .empty⟩⟩
def word (m : Int) : List UInt8 := if m = 1 then [102, 105, 108, 101] else if m = 2 then [114, 117, 110] else if m = 3 then [116, 114, 101, 101] else []
def modeL (l : List UInt8) : Int := if l = [102, 105, 108, 101] then 1 else if l = [114, 117, 110] then 2 else if l = [116, 114, 101, 101] then 3 else 0
def less (a b : ByteArray) : Bool := Op.bytesLess a.toList b.toList
def chk1 (x : En) : Int := if Lb.nameB x.nm = false then 50 else if ¬ (1 ≤ x.md ∧ x.md ≤ 3) then 60 else if x.ids.size ≠ 32 then 6 else 0
def stuck (p : Option En) (x : En) : Bool := match p with
  | none => false
  | some y => !less y.nm x.nm
def chkF : Option En → List En → Int
  | _, [] => 0
  | p, x :: r => if chk1 x ≠ 0 then chk1 x else if stuck p x = true then 61 else chkF (some x) r
def chk (l : List En) : Int := if 256 < l.length then 3 else chkF none l
def before (l : List En) : Nat → Option En
  | 0 => none
  | i + 1 => l[i]?
theorem chk_step (l : List En) (i : Nat) (x : En) (h : l[i]? = some x) : chkF (before l i) (l.drop i) = if chk1 x ≠ 0 then chk1 x else if stuck (before l i) x = true then 61 else chkF (before l (i + 1)) (l.drop (i + 1)) := by
  obtain ⟨hl, rfl⟩ := List.getElem?_eq_some_iff.1 h
  rw [List.drop_eq_getElem_cons hl, chkF]
  have e : before l (i + 1) = some l[i] := by rw [before, List.getElem?_eq_getElem hl]
  rw [e]
theorem chk_end (l : List En) (p : Option En) : chkF p (l.drop l.length) = 0 := by simp [chkF]
def enc1 (x : En) : List UInt8 := word x.md ++ 32 :: (x.nm.data.toList ++ 0 :: x.ids.data.toList)
def encL (l : List En) : List UInt8 := l.flatMap enc1
def cut0 : List UInt8 → Option (List UInt8 × List UInt8)
  | [] => none
  | c :: r => if c = 0 then some ([], r) else (cut0 r).map fun p => (c :: p.1, p.2)
def heads (h : List UInt8) : Option (Int × List UInt8) :=
  if [102, 105, 108, 101, 32].isPrefixOf h then some (1, h.drop 5) else if [114, 117, 110, 32].isPrefixOf h then some (2, h.drop 4)
  else if [116, 114, 101, 101, 32].isPrefixOf h then some (3, h.drop 5) else none
inductive Rd where
  | err (e : Int)
  | ok (x : En) (r : List UInt8)
def rd (s : List UInt8) : Rd := match cut0 s with
  | none => .err 4
  | some (h, r) => if r.length < 32 then .err 4 else match heads h with
    | none => .err 60
    | some (m, n) => .ok ⟨bs n, m, bs (r.take 32)⟩ (r.drop 32)
def fin (acc : List En) : Int × List En := (chk acc, if chk acc = 0 then acc else [])
def decF : Nat → List En → List UInt8 → Int × List En
  | 0, acc, _ => fin acc
  | f + 1, acc, s => if s = [] then fin acc else match rd s with
    | .err e => (e, [])
    | .ok x r => if acc.length = 256 then (3, []) else decF f (acc ++ [x]) r
def dec (s : List UInt8) : Int × List En := decF s.length [] s
theorem cut0_none : ∀ s, cut0 s = none ↔ 0 ∉ s
  | [] => by simp [cut0]
  | c :: r => by
    rw [cut0]
    by_cases h : c = 0
    · simp [h]
    · rw [if_neg h, Option.map_eq_none_iff, cut0_none r]
      simp
      intro _ e
      exact h e.symm
theorem cut0_some : ∀ (s h r : List UInt8), cut0 s = some (h, r) → s = h ++ 0 :: r ∧ 0 ∉ h
  | [], h, r, e => by simp [cut0] at e
  | c :: t, h, r, e => by
    rw [cut0] at e
    by_cases hc : c = 0
    · simp [hc] at e
      obtain ⟨rfl, rfl⟩ := e
      simp [hc]
    · rw [if_neg hc, Option.map_eq_some_iff] at e
      obtain ⟨⟨a, b⟩, e1, e2⟩ := e
      simp at e2
      obtain ⟨rfl, rfl⟩ := e2
      obtain ⟨h1, h2⟩ := cut0_some t a b e1
      refine ⟨by simp [h1], ?_⟩
      simp [h2]
      exact fun e => hc e.symm
theorem cut0_mk : ∀ (h r : List UInt8), 0 ∉ h → cut0 (h ++ 0 :: r) = some (h, r)
  | [], r, _ => by simp [cut0]
  | c :: t, r, hn => by
    have hc : c ≠ 0 := fun e => hn (by simp [e])
    rw [List.cons_append, cut0, if_neg hc, cut0_mk t r (fun e => hn (by simp [e]))]
    rfl
theorem word_mode (m : Int) : word m = [] ↔ ¬ (1 ≤ m ∧ m ≤ 3) := by
  unfold word
  by_cases h1 : m = 1
  · simp [h1]
  · by_cases h2 : m = 2
    · simp [h2]
    · by_cases h3 : m = 3
      · simp [h3]
      · simp [h1, h2, h3]; omega
theorem pref_some (p h : List UInt8) (e : p.isPrefixOf h = true) : h = p ++ h.drop p.length := by
  obtain ⟨t, rfl⟩ := List.isPrefixOf_iff_prefix.1 e
  simp
theorem heads_some (h : List UInt8) (m : Int) (n : List UInt8) (e : heads h = some (m, n)) : h = word m ++ 32 :: n ∧ 1 ≤ m ∧ m ≤ 3 := by
  unfold heads at e
  by_cases h1 : [102, 105, 108, 101, 32].isPrefixOf h = true
  · rw [if_pos h1] at e
    simp at e
    obtain ⟨rfl, rfl⟩ := e
    exact ⟨by simpa [word] using pref_some _ _ h1, by omega, by omega⟩
  · rw [if_neg h1] at e
    by_cases h2 : [114, 117, 110, 32].isPrefixOf h = true
    · rw [if_pos h2] at e
      simp at e
      obtain ⟨rfl, rfl⟩ := e
      exact ⟨by simpa [word] using pref_some _ _ h2, by omega, by omega⟩
    · rw [if_neg h2] at e
      by_cases h3 : [116, 114, 101, 101, 32].isPrefixOf h = true
      · rw [if_pos h3] at e
        simp at e
        obtain ⟨rfl, rfl⟩ := e
        exact ⟨by simpa [word] using pref_some _ _ h3, by omega, by omega⟩
      · rw [if_neg h3] at e
        cases e
theorem heads_mk (m : Int) (n : List UInt8) (h : 1 ≤ m ∧ m ≤ 3) : heads (word m ++ 32 :: n) = some (m, n) := by
  rcases (by omega : m = 1 ∨ m = 2 ∨ m = 3) with rfl | rfl | rfl <;> simp [heads, word, List.isPrefixOf]
/-- An entry whose bytes can be read again. -/
def wf (x : En) : Prop := 0 ∉ x.nm.data.toList ∧ (1 ≤ x.md ∧ x.md ≤ 3) ∧ x.ids.size = 32
theorem word_no0 (m : Int) : (0 : UInt8) ∉ word m := by
  unfold word
  repeat' split
  all_goals decide
theorem rd_mk (x : En) (r : List UInt8) (h : wf x) : rd (enc1 x ++ r) = .ok x r := by
  obtain ⟨h1, h2, h3⟩ := h
  have e : enc1 x ++ r = (word x.md ++ 32 :: x.nm.data.toList) ++ 0 :: (x.ids.data.toList ++ r) := by simp [enc1]
  have hl : x.ids.data.toList.length = 32 := by rw [str_len]; exact h3
  have h0 : (0 : UInt8) ∉ word x.md ++ 32 :: x.nm.data.toList := by
    simp only [List.mem_append, List.mem_cons, not_or]
    exact ⟨word_no0 _, by decide, h1⟩
  rw [e, rd, cut0_mk _ _ h0]
  dsimp only
  rw [if_neg (by rw [List.length_append, hl]; omega), heads_mk _ _ h2]
  dsimp only
  have e1 : List.take 32 (x.ids.data.toList ++ r) = x.ids.data.toList := by rw [List.take_append_of_le_length (by omega), List.take_of_length_le (by omega)]
  have e2 : List.drop 32 (x.ids.data.toList ++ r) = r := by rw [List.drop_append_of_le_length (by omega), List.drop_eq_nil_of_le (by omega)]; rfl
  rw [e1, e2, bs_data, bs_data]
theorem rd_ok (s : List UInt8) (x : En) (r : List UInt8) (h : rd s = .ok x r) : s = enc1 x ++ r ∧ r.length + 33 ≤ s.length ∧ wf x := by
  unfold rd at h
  cases hc : cut0 s with
  | none => rw [hc] at h; cases h
  | some p =>
    obtain ⟨a, b⟩ := p
    rw [hc] at h
    dsimp only at h
    obtain ⟨rfl, h0⟩ := cut0_some s a b hc
    by_cases hl : b.length < 32
    · rw [if_pos hl] at h; cases h
    · rw [if_neg hl] at h
      cases hh : heads a with
      | none => rw [hh] at h; cases h
      | some q =>
        obtain ⟨m, n⟩ := q
        rw [hh] at h
        simp only [Rd.ok.injEq] at h
        obtain ⟨rfl, rfl⟩ := h
        obtain ⟨rfl, hm⟩ := heads_some a m n hh
        refine ⟨?_, by simp; omega, ?_⟩
        · simp [enc1, bs_list]
        · refine ⟨?_, hm, ?_⟩
          · rw [bs_list]
            intro hz
            exact h0 (by simp [hz])
          · rw [bs_size]; simp; omega
theorem encL_cons (x : En) (l : List En) : encL (x :: l) = enc1 x ++ encL l := rfl
theorem enc1_ne (x : En) (r : List UInt8) : enc1 x ++ r ≠ [] := by simp [enc1]
theorem enc1_pos (x : En) : 2 ≤ (enc1 x).length := by simp [enc1]; omega
theorem decF_mk : ∀ (l acc : List En) (f : Nat), (∀ x ∈ l, wf x) → acc.length ≤ 256 → (encL l).length ≤ f → decF f acc (encL l) = if 256 < acc.length + l.length then (3, []) else fin (acc ++ l)
  | [], acc, f, _, ha, _ => by
    rw [if_neg (by simp; omega)]
    cases f <;> simp [decF, encL]
  | x :: l, acc, f, hw, ha, hf => by
    rw [encL_cons] at hf ⊢
    have hp := enc1_pos x
    cases f with
    | zero => rw [List.length_append] at hf; omega
    | succ f =>
      rw [decF, if_neg (enc1_ne _ _), rd_mk x _ (hw x (by simp))]
      dsimp only
      by_cases h : acc.length = 256
      · rw [if_pos h, if_pos (by simp; omega)]
      · rw [if_neg h, decF_mk l (acc ++ [x]) f (fun y hy => hw y (by simp [hy])) (by simp; omega) (by simp at hf; omega)]
        simp only [List.length_append, List.length_cons, List.length_nil, List.append_assoc, List.cons_append, List.nil_append]
        by_cases hk : 256 < acc.length + (l.length + 1)
        · rw [if_pos (by omega), if_pos hk]
        · rw [if_neg (by omega), if_neg hk]
theorem decF_ok : ∀ (f : Nat) (acc : List En) (s : List UInt8) (m : List En), s.length ≤ f → decF f acc s = (0, m) → ∃ m', m = acc ++ m' ∧ encL m' = s
  | 0, acc, s, m, hf, h => by
    have : s = [] := List.length_eq_zero_iff.1 (by omega)
    subst this
    rw [decF, fin] at h
    simp only [Prod.mk.injEq] at h
    obtain ⟨h1, h2⟩ := h
    rw [if_pos h1] at h2
    exact ⟨[], by simp [h2], rfl⟩
  | f + 1, acc, s, m, hf, h => by
    rw [decF] at h
    by_cases hs : s = []
    · rw [if_pos hs, fin] at h
      simp only [Prod.mk.injEq] at h
      obtain ⟨h1, h2⟩ := h
      rw [if_pos h1] at h2
      exact ⟨[], by simp [h2], by simp [hs, encL]⟩
    · rw [if_neg hs] at h
      cases hr : rd s with
      | err e =>
        rw [hr] at h
        simp only [Prod.mk.injEq] at h
        obtain ⟨rfl, rfl⟩ := h
        exfalso
        unfold rd at hr
        repeat' split at hr
        all_goals first | (cases hr; done) | (simp at hr; done)
      | ok x r =>
        rw [hr] at h
        dsimp only at h
        obtain ⟨e1, e2, -⟩ := rd_ok s x r hr
        by_cases ha : acc.length = 256
        · rw [if_pos ha] at h
          simp at h
        · rw [if_neg ha] at h
          obtain ⟨m', h1, h2⟩ := decF_ok f (acc ++ [x]) r m (by omega) h
          exact ⟨x :: m', by simp [h1], by rw [encL_cons, h2, e1]⟩
theorem dec_ok (s : List UInt8) (m : List En) (h : dec s = (0, m)) : encL m = s := by
  obtain ⟨m', h1, h2⟩ := decF_ok _ _ _ _ (Nat.le_refl _) h
  simp at h1
  rw [h1, h2]
theorem dec_mk (l : List En) (h : ∀ x ∈ l, wf x) : dec (encL l) = if 256 < l.length then (3, []) else fin l := by
  rw [dec, decF_mk l [] _ h (by simp) (Nat.le_refl _)]
  simp
/-- A name has no nought. -/
theorem decodeN_low (n b0 b1 b2 b3 : Nat) : ((decodeN n b0 b1 b2 b3).2 = 1 ∧ ((decodeN n b0 b1 b2 b3).1 = b0 ∨ 128 ≤ b0)) ∨ ((decodeN n b0 b1 b2 b3).2 = 2 ∧ 128 ≤ b0 ∧ 128 ≤ b1) ∨ ((decodeN n b0 b1 b2 b3).2 = 3 ∧ 128 ≤ b0 ∧ 128 ≤ b1 ∧ 128 ≤ b2) ∨ ((decodeN n b0 b1 b2 b3).2 = 4 ∧ 128 ≤ b0 ∧ 128 ≤ b1 ∧ 128 ≤ b2 ∧ 128 ≤ b3) := by
  unfold decodeN
  repeat' split
  all_goals (dsimp only; omega)
theorem get_mem (s : ByteArray) (i : Nat) : s.data.toList[i]? = some 0 → (s.get! i).toNat = 0 := by
  intro h
  rw [Lb.get_list, List.getD_eq_getElem?_getD, h]
  rfl
theorem runes_no0 (s : ByteArray) : ∀ (f pos : Nat), s.size ≤ f + pos → (Lb.runesF s f pos).all (fun d => !Lb.bar d.1) = true → ∀ i, pos ≤ i → s.data.toList[i]? ≠ some 0 := by
  intro f
  induction f with
  | zero =>
    intro pos h _ i hi
    rw [List.getElem?_eq_none (by rw [str_len]; omega)]
    simp
  | succ f ih =>
    intro pos h ha i hi
    by_cases hp : pos < s.size
    · rw [Lb.runes_step s f pos hp, List.all_cons, Bool.and_eq_true] at ha
      obtain ⟨ha1, ha2⟩ := ha
      have hw := Lb.width_pos s pos hp
      have hd := decodeN_low (s.size - pos) (s.get! pos).toNat (s.get! (pos + 1)).toNat (s.get! (pos + 2)).toNat (s.get! (pos + 3)).toNat
      rw [← decode_at] at hd
      by_cases hin : pos + (Utf8.decode s pos).2 ≤ i
      · exact ih _ (by omega) ha2 i hin
      · intro h0
        have hz := get_mem s i h0
        rcases hd with ⟨k, h1⟩ | ⟨k, h1, h2⟩ | ⟨k, h1, h2, h3⟩ | ⟨k, h1, h2, h3, h4⟩
        · obtain rfl : i = pos := by omega
          rcases h1 with h1 | h1
          · rw [h1, hz] at ha1
            exact absurd ha1 (by decide)
          · omega
        · rcases (by omega : i = pos ∨ i = pos + 1) with rfl | rfl <;> omega
        · rcases (by omega : i = pos ∨ i = pos + 1 ∨ i = pos + 2) with rfl | rfl | rfl <;> omega
        · rcases (by omega : i = pos ∨ i = pos + 1 ∨ i = pos + 2 ∨ i = pos + 3) with rfl | rfl | rfl | rfl <;> omega
    · rw [List.getElem?_eq_none (by rw [str_len]; omega)]
      simp
theorem name_no0 (s : ByteArray) (h : Lb.nameB s = true) : 0 ∉ s.data.toList := by
  unfold Lb.nameB at h
  rw [Bool.and_eq_true] at h
  intro h0
  obtain ⟨i, hi⟩ := List.mem_iff_getElem?.1 h0
  exact runes_no0 s s.size 0 (by omega) h.2 i (by omega) hi
theorem name_short (s : ByteArray) (h : Lb.nameB s = true) : s.size ≤ 64 := by
  unfold Lb.nameB Lb.noName at h
  rw [str_len] at h
  simp at h
  omega
theorem chk1_wf (x : En) (h : chk1 x = 0) : wf x ∧ x.nm.size ≤ 64 := by
  unfold chk1 at h
  by_cases h1 : Lb.nameB x.nm = false
  · rw [if_pos h1] at h; cases h
  · rw [if_neg h1] at h
    by_cases h2 : 1 ≤ x.md ∧ x.md ≤ 3
    · rw [if_neg (by simpa using h2)] at h
      by_cases h3 : x.ids.size = 32
      · have := (Bool.not_eq_false _).mp h1
        exact ⟨⟨name_no0 _ this, h2, h3⟩, name_short _ this⟩
      · rw [if_pos h3] at h; cases h
    · rw [if_pos h2] at h; cases h
theorem chkF_wf : ∀ (l : List En) (p : Option En), chkF p l = 0 → ∀ x ∈ l, wf x ∧ x.nm.size ≤ 64
  | [], _, _, x, hx => by simp at hx
  | y :: l, p, h, x, hx => by
    rw [chkF] at h
    by_cases h1 : chk1 y = 0
    · rw [if_neg (by simpa using h1)] at h
      by_cases h2 : stuck p y = true
      · rw [if_pos h2] at h; cases h
      · rw [if_neg h2] at h
        rcases List.mem_cons.1 hx with rfl | hx
        · exact chk1_wf _ h1
        · exact chkF_wf l _ h x hx
    · rw [if_pos h1] at h
      exact absurd h h1
theorem chk_wf (l : List En) (h : chk l = 0) : l.length ≤ 256 ∧ ∀ x ∈ l, wf x ∧ x.nm.size ≤ 64 := by
  unfold chk at h
  by_cases hl : 256 < l.length
  · rw [if_pos hl] at h; cases h
  · rw [if_neg hl] at h
    exact ⟨by omega, chkF_wf l none h⟩
theorem enc1_len (x : En) (h : wf x ∧ x.nm.size ≤ 64) : (enc1 x).length ≤ 102 := by
  obtain ⟨⟨_, hm, hi⟩, hn⟩ := h
  have hw : (word x.md).length ≤ 4 := by
    unfold word
    repeat' split
    all_goals simp
  simp [enc1]
  have e1 : x.nm.data.size = x.nm.size := rfl
  have e2 : x.ids.data.size = x.ids.size := rfl
  omega
theorem encL_len : ∀ (l : List En), (∀ x ∈ l, wf x ∧ x.nm.size ≤ 64) → (encL l).length ≤ 102 * l.length
  | [], _ => by simp [encL]
  | x :: l, h => by
    rw [encL_cons, List.length_append]
    have h1 := enc1_len x (h x (by simp))
    have h2 := encL_len l (fun y hy => h y (by simp [hy]))
    simp
    omega
end Go.Proofs.YtmjffngpaoaflaaGreatDoor
