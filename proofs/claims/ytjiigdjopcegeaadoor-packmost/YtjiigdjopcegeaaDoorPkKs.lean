/- Packs: rows of items in memory; so many items, read: walked. -/
import Derived.Test.YtjiigdjopcegeaaDoorPkKr
import Derived.Laws.Cover1
namespace Go.Proofs.YtjiigdjopcegeaaDoor.Pk
open Cb Ld Go.RowKit Go.Shelf
def itV (x : It) : List Value := [.string (bs x.b), .string (bs x.d), .int .i64 x.pl]
def itsV (l : List It) : List Value := l.flatMap itV
theorem itsV_len : ∀ l : List It, (itsV l).length = l.length * 3
  | [] => rfl
  | x :: t => by
    have := itsV_len t
    unfold itsV at this ⊢
    simp [itV] at this ⊢
    omega
theorem itsV_at : ∀ (l : List It) (j : Nat) (x : It), l[j]? = some x → (itsV l)[j * 3]? = some (.string (bs x.b)) ∧ (itsV l)[j * 3 + 1]? = some (.string (bs x.d)) ∧ (itsV l)[j * 3 + 2]? = some (.int .i64 x.pl)
  | [], j, x, h => by simp at h
  | y :: t, 0, x, h => by
    simp at h
    subst h
    exact ⟨rfl, rfl, rfl⟩
  | y :: t, j + 1, x, h => by
    have h' : t[j]? = some x := by simpa using h
    obtain ⟨a, b, c⟩ := itsV_at t j x h'
    have e : itsV (y :: t) = .string (bs y.b) :: .string (bs y.d) :: .int .i64 y.pl :: itsV t := rfl
    rw [e, show (j + 1) * 3 = j * 3 + 1 + 1 + 1 by omega]
    exact ⟨by simpa using a, by simpa using b, by simpa using c⟩
theorem itsV_snoc (l : List It) (x : It) : itsV (l ++ [x]) = itsV l ++ [.string (bs x.b), .string (bs x.d), .int .i64 x.pl] := by simp [itsV, itV]
theorem block_lt {w : World} {g : Nat} {o : Obj} (h : w.heap[g]? = some o) : g < w.heap.size := by
  rcases Nat.lt_or_ge g w.heap.size with h' | h'
  · exact h'
  · simp [Array.getElem?_eq_none h'] at h
/-- Items that lie in memory one behind the other. -/
def ICells (w : World) (b o : Nat) (l : List It) : Prop := b < w.heap.size ∧ ∀ (i : Nat) (x : It), l[i]? = some x → w.cell? ⟨b, o + i * 3, none⟩ = some (.string (bs x.b)) ∧ w.cell? ⟨b, o + i * 3 + 1, none⟩ = some (.string (bs x.d)) ∧ w.cell? ⟨b, o + i * 3 + 2, none⟩ = some (.int .i64 x.pl)
def IRow (w : World) (v : Value) (l : List It) : Prop := ∃ a c, v = .slice a l.length c ∧ l.length ≤ c ∧ (c ≤ maxLen ∧ (a = none → c = 0)) ∧ (0 < l.length → ∃ b o, a = some ⟨b, o, none⟩ ∧ ICells w b o l)
theorem ICells.below {w w' : World} {b o : Nat} {l : List It} (h : ICells w b o l) (hb : Below w.heap.size w w') : ICells w' b o l :=
  ⟨Nat.lt_of_lt_of_le h.1 hb.size, fun i x hx => by
    obtain ⟨h1, h2, h3⟩ := h.2 i x hx
    exact ⟨by rw [hb.cell (p := ⟨b, o + i * 3, none⟩) h.1]; exact h1, by rw [hb.cell (p := ⟨b, o + i * 3 + 1, none⟩) h.1]; exact h2, by rw [hb.cell (p := ⟨b, o + i * 3 + 2, none⟩) h.1]; exact h3⟩⟩
theorem IRow.below {w w' : World} {v : Value} {l : List It} (h : IRow w v l) (hb : Below w.heap.size w w') : IRow w' v l := by
  obtain ⟨a, c, h1, h2, h3, h4⟩ := h
  refine ⟨a, c, h1, h2, h3, fun h0 => ?_⟩
  obtain ⟨b, o, e, hc⟩ := h4 h0
  exact ⟨b, o, e, hc.below hb⟩
theorem IRow.nil (w : World) : IRow w (.slice none 0 0) [] := ⟨none, 0, rfl, Nat.le_refl _, ⟨Nat.zero_le _, fun _ => rfl⟩, fun h => by simp at h⟩
theorem IRow.of_row {w : World} {B : Nat} {t : TypeId} {v : Value} {l : List It} (h : w.ownsRow B t 3 v l.length (itsV l)) : IRow w v l := by
  rcases h.2 with ⟨e, h0⟩ | ⟨g, cap, cur, e, h1, hg, h2, h3, r⟩
  · exact ⟨none, 0, by rw [e, h0], by omega, ⟨by unfold maxLen; omega, fun _ => rfl⟩, fun hp => by omega⟩
  · subst e
    refine ⟨some ⟨g, 0, none⟩, cap, rfl, h2, ⟨h3, fun h => by cases h⟩, fun _ => ⟨g, 0, rfl, block_lt hg, fun j x hj => ?_⟩⟩
    have hl : j < l.length := (List.getElem?_eq_some_iff.1 hj).1
    obtain ⟨a, b, c⟩ := itsV_at l j x hj
    refine ⟨?_, ?_, ?_⟩
    · rw [Nat.zero_add, h.cellAt (j * 3) (by omega), a]
    · rw [Nat.zero_add, h.cellAt (j * 3 + 1) (by omega), b]
    · rw [Nat.zero_add, h.cellAt (j * 3 + 2) (by omega), c]
theorem own_below {w w' : World} {B n s : Nat} {t : TypeId} {v : Value} {xs : List Value} (h : w.ownsRow B t s v n xs) (hb : Below w.heap.size w w') : w'.ownsRow B t s v n xs := by
  refine ⟨h.1, ?_⟩
  rcases h.2 with h0 | ⟨g, cap, cur, e, h1, hg, r⟩
  · exact .inl h0
  · exact .inr ⟨g, cap, cur, e, h1, (hb.block g (block_lt hg)).trans hg, r⟩
theorem infoI : (Tryd.prog.info? 37).map (fun i => (i.zero, i.size, i.bytes)) = some (some (.agg #[.string ⟨#[]⟩, .string ⟨#[]⟩, .int .i64 0]), 3, 40) := by kernel_rfl
theorem three_new {w : World} (x y : ByteArray) (z : Int) (t : TypeId) (j : Nat) (u : Value) (h : [Value.string x, .string y, .int .i64 z][j]? = some u) : (w.alloc (.cells #[.string x, .string y, .int .i64 z] t)).cell? ((⟨w.heap.size, 0, none⟩ : Addr).add j) = some u := by
  have hrow : (w.alloc (.cells #[.string x, .string y, .int .i64 z] t)).heap[w.heap.size]? = some (.cells #[.string x, .string y, .int .i64 z] t (0, 0)) := alloc_at rfl
  match j, h with
  | 0, h => exact cellAt hrow (by simpa using h)
  | 1, h => exact cellAt hrow (by simpa using h)
  | 2, h => exact cellAt hrow (by simpa using h)
  | j + 3, h => simp at h
theorem row_ge {B n s : Nat} {t : TypeId} {v : Value} {xs : List Value} {w : World} (h : w.ownsRow B t s v n xs) : ∀ k, v.ownBlock = some k → B ≤ k := by
  intro k hk
  rcases h.2 with ⟨e, _⟩ | ⟨g, cap, cur, e, h1, _⟩
  · subst e; simp [Value.ownBlock] at hk
  · subst e; simp [Value.ownBlock] at hk; omega
theorem riN_k {sp : List UInt8 → Nat × List UInt8} {B R : List UInt8} {k n : Nat} (h : (riN sp B k R n).e = 0) : (riN sp B k R n).k = k + n ∧ n ≤ R.length := by
  unfold riN at h ⊢
  by_cases h1 : R.length < n
  · rw [if_pos h1] at h; simp at h
  · rw [if_neg h1] at h ⊢
    by_cases h2 : (sp (R.take n)).1 = 0
    · rw [if_neg (by simpa using h2)]
      exact ⟨rfl, by omega⟩
    · rw [if_pos h2] at h
      exact absurd h h2
theorem ri_k {sp : List UInt8 → Nat × List UInt8} {L : List UInt8} (h : (ri sp L).e = 0) : (ri sp L).k ≤ L.length := by
  unfold ri at h ⊢
  by_cases h1 : (rb L).2.2 = 0
  · rw [if_neg (by simpa using h1)] at h ⊢
    have hk := (rb_ok (L := L) (B := (rb L).1) (k := (rb L).2.1) (Prod.ext rfl (Prod.ext rfl h1))).1
    unfold riB at h ⊢
    by_cases h2 : (Cd.unnum (L.drop (rb L).2.1)).2.2 = 0
    · rw [if_neg (by simpa using h2)] at h ⊢
      have hu := Lz.unnum_k (L.drop (rb L).2.1)
      obtain ⟨e, hn⟩ := riN_k h
      rw [e]
      simp only [List.length_drop] at hu hn
      omega
    · rw [if_pos h2] at h
      exact absurd h h2
  · rw [if_pos h1] at h
    exact absurd h h1
/-- What is behind some items that were read. -/
def comb (acc : List It) (r : Nat × List It) : Nat × List It := if r.1 ≠ 0 then (r.1, []) else (0, acc ++ r.2)
theorem comb_nil (r : Nat × List It) (h : r.1 ≠ 0 → r.2 = []) : comb [] r = r := by
  obtain ⟨a, b⟩ := r
  unfold comb
  by_cases ha : a = 0
  · subst ha; simp
  · have hb := h ha
    simp only at hb
    rw [if_pos ha, hb]
theorem ris_err {sp : List UInt8 → Nat × List UInt8} {S : List UInt8} : ∀ (n left a : Nat), (ris sp S n left a).1 ≠ 0 → (ris sp S n left a).2 = []
  | 0, left, a, h => by
    rw [ris] at h ⊢
    split <;> rfl
  | n + 1, left, a, h => by
    rw [ris] at h ⊢
    by_cases h1 : (ri sp (S.drop a)).e = 0
    · rw [if_neg (by simpa using h1)] at h ⊢
      by_cases h2 : left < (ri sp (S.drop a)).d.length
      · rw [if_pos h2]
      · rw [if_neg h2] at h ⊢
        split
        · rfl
        · rename_i h3
          rw [if_neg h3] at h
          exact absurd rfl h
    · rw [if_pos h1]
theorem comb_err (acc : List It) (e : Nat) (h : e ≠ 0) : comb acc (e, []) = (e, []) := by simp [comb, h]
theorem comb_snoc (acc : List It) (x : It) (r : Nat × List It) : comb acc (if r.1 ≠ 0 then (r.1, []) else (0, x :: r.2)) = comb (acc ++ [x]) r := by
  obtain ⟨a, b⟩ := r
  by_cases ha : a = 0
  · subst ha; simp [comb]
  · simp [comb, ha]
/-- What was scanned. -/
def ScTo (T : TypeId) (w : World) (r : Nat × List It) (e : Ending) (w' : World) : Prop := ∃ v, e = .returned (.tuple #[v, .int .i64 (r.1 : Int)]) ∧ w'.ownsRow w.heap.size T 3 v r.2.length (itsV r.2) ∧ Below w.heap.size w w'
set_option maxHeartbeats 3200000 in
set_option maxRecDepth 100000 in
theorem readItems_any (S : List UInt8) (a0 n : Nat) (w : World) (ha0 : a0 ≤ S.length) (hS : S.length ≤ 10000000) (hn : n ≤ 2048) :
    Calls Tryd.prog 26 #[.string (bs S), .int .i64 (a0 : Int), .int .i64 (n : Int)] w fun e w' => ScTo 37 w (ris spPp S n 16777216 a0) e w' := by
  obtain ⟨i0, hi0, hz0, hz1, hz2⟩ := info_parts infoI
  have HRI := hideIt (fun a w h => readItem_any S a w h hS)
  obtain ⟨R, hR⟩ : ∃ R, ris spPp S n 16777216 a0 = R := ⟨_, rfl⟩
  have HT : Hid (∀ e w', ScTo 37 w R e w' ↔ ∃ v, e = .returned (.tuple #[v, .int .i64 (R.1 : Int)]) ∧ w'.ownsRow w.heap.size 37 3 v R.2.length (itsV R.2) ∧ Below w.heap.size w w') := hideIt (fun _ _ => Iff.rfl)
  have HR0 : Hid (comb [] (ris spPp S n 16777216 a0) = R) := hideIt (by rw [← hR]; exact comb_nil _ (ris_err n _ _))
  rw [hR]
  clear hR
  have nI : (n : Int) ≤ 2048 := by omega
  obtain ⟨N, hN⟩ : ∃ N, S.length = N := ⟨_, rfl⟩
  have HNN := hideIt hN
  obtain ⟨T, hT⟩ : ∃ T, bs S = T := ⟨_, rfl⟩
  have hTs : T.size = N := by rw [← hT, bs_size, hN]
  rw [hT] at HRI ⊢
  rw [hN] at HRI hS ha0
  clear hT hN
  go_enter Tryd.func26, Tryd.ntmps26
  go_wp2
  go_loopw [1, 8, 9, 14] (fun ta tv tl ti wr => ∃ (i a left : Nat) (acc : List It), i ≤ n ∧ a ≤ N ∧ left ≤ 16777216 ∧ ta = .int .i64 (a : Int) ∧ tl = .int .i64 (left : Int) ∧ ti = .int .i64 (i : Int) ∧ acc.length = i ∧ Hid (comb acc (ris spPp S (n - i) left a) = R) ∧ wr.ownsRow w.heap.size 37 3 tv acc.length (itsV acc) ∧ Below w.heap.size w wr) (fun _ _ _ ti _ => n - (intOf ti).toNat)
  case atStart => exact ⟨0, a0, 16777216, [], by omega, ha0, by omega, rfl, rfl, rfl, rfl, by simpa using HR0, ⟨rfl, .inl ⟨rfl, rfl⟩⟩, Below.refl _ _⟩
  case round =>
    obtain ⟨i, a, left, acc, hi, ha, hleft, rfl, rfl, rfl, hacc, HD, hrow, hb⟩ := hrel
    have HO := hideIt hrow
    have HB := hideIt hb
    have hws : w.heap.size ≤ wr.heap.size := hb.size
    have leI : (left : Int) ≤ 16777216 := by omega
    clear hrow hb
    by_cases hlt : i < n
    · have hid : decide ((i : Int) < (n : Int)) = true := decide_eq_true (by omega)
      have i1 : (i : Int) < (n : Int) := by omega
      have HR1 := hideIt (HRI.out a wr ha)
      obtain ⟨m, hm⟩ : ∃ m, n - i = m + 1 := ⟨n - i - 1, by omega⟩
      have hm2 : n - (i + 1) = m := by omega
      have HKK := hideIt (ri_k (sp := spPp) (L := S.drop a))
      have HST : Hid (ris spPp S (m + 1) left a = if (ri spPp (S.drop a)).e ≠ 0 then ((ri spPp (S.drop a)).e, []) else if left < (ri spPp (S.drop a)).d.length then (3, []) else if (ris spPp S m (left - (ri spPp (S.drop a)).d.length) (a + (ri spPp (S.drop a)).k)).1 ≠ 0 then ((ris spPp S m (left - (ri spPp (S.drop a)).d.length) (a + (ri spPp (S.drop a)).k)).1, []) else (0, ⟨(ri spPp (S.drop a)).b, (ri spPp (S.drop a)).d, (a : Int)⟩ :: (ris spPp S m (left - (ri spPp (S.drop a)).d.length) (a + (ri spPp (S.drop a)).k)).2)) := hideIt rfl
      rw [hm] at HD
      obtain ⟨⟨b, d, k, z⟩, hr⟩ : ∃ r, ri spPp (S.drop a) = r := ⟨_, rfl⟩
      rw [hr] at HR1 HST HKK
      simp only at HST HKK
      clear hr
      by_cases hz : z = 0
      · subst hz
        have HR2 : Hid (Calls Tryd.prog 43 #[.string T, .int .i64 (a : Int)] wr fun e w' => e = .returned (.tuple #[.agg #[.string (bs b), .string (bs d), .int .i64 (a : Int)], .int .i64 ((a + k : Nat) : Int), .int .i64 0]) ∧ Below wr.heap.size wr w') := HR1
        have hk : a + k ≤ N := by have := HKK.out rfl; rw [List.length_drop, HNN.out] at this; omega
        obtain ⟨a2, ha2⟩ : ∃ a2, a + k = a2 := ⟨_, rfl⟩
        rw [ha2] at HR2 HST hk
        rw [if_neg (by simp)] at HST
        obtain ⟨q, hq⟩ : ∃ q, (bs d).size = q := ⟨_, rfl⟩
        have hq2 : d.length = q := by rw [← hq, bs_size]
        rw [hq2] at HST
        obtain ⟨X, hX⟩ : ∃ X, bs b = X := ⟨_, rfl⟩
        obtain ⟨Y, hY⟩ : ∃ Y, bs d = Y := ⟨_, rfl⟩
        have HXY := hideIt (And.intro hX hY)
        rw [hX, hY] at HR2
        have hYs : Y.size = q := by rw [← hY]; exact hq
        clear hX hY hq hq2 HR1 HKK
        by_cases hl : left < q
        · have l1 : (left : Int) < (q : Int) := by omega
          have l2 : decide ((left : Int) < (q : Int)) = true := decide_eq_true l1
          have HD2 : Hid (R = (3, [])) := hideIt (by rw [← HD.out, HST.out, if_pos hl]; exact comb_err _ _ (by omega))
          clear HD HST ha2 hm hm2
          go_wp2_with (first | (go_at_call 43; refine HR2.out.mono ?_; rintro e w1 ⟨rfl, hb1⟩))
          go_ret2
          refine (HT.out _ _).2 ⟨.slice none 0 0, ?_, ?_, below2 HB.out (below2 hb1 ((Below.refl _ _).alloc (Nat.le_refl _) _))⟩
          · rw [HD2.out]; rfl
          · rw [HD2.out]; exact ⟨rfl, .inl ⟨rfl, rfl⟩⟩
        · have l1 : ¬ (left : Int) < (q : Int) := by omega
          have l2 : decide ((left : Int) < (q : Int)) = false := decide_eq_false l1
          obtain ⟨p, hp⟩ : ∃ p, left - q = p := ⟨_, rfl⟩
          have p1 : (left : Int) - (q : Int) = (p : Int) := by omega
          have p2 : p ≤ 16777216 := by omega
          rw [if_neg hl, hp] at HST
          have HD2 : Hid (comb (acc ++ [⟨b, d, (a : Int)⟩]) (ris spPp S m p a2) = R) := hideIt (by rw [← comb_snoc, ← HST.out]; exact HD.out)
          have HTN : Hid (∀ (w1 : World) (j : Nat) (u : Value), [Value.string X, .string Y, .int .i64 (a : Int)][j]? = some u → ((w1.alloc (.cells #[.string X, .string Y, .int .i64 (a : Int)] 37)).alloc (.cells #[.string X, .string Y, .int .i64 (a : Int)] 37)).cell? ((⟨w1.heap.size + 1, 0, none⟩ : Addr).add j) = some u) := hideIt (fun w1 j u h => by
            have := three_new (w := w1.alloc (.cells #[.string X, .string Y, .int .i64 (a : Int)] 37)) X Y (a : Int) 37 j u h
            simpa using this)
          have HAC := hideIt hacc
          rw [hacc] at HO
          obtain ⟨av, cv, hv, hle, hcm, _⟩ := IRow.of_row (l := acc) (by rw [hacc]; exact HO.out)
          rw [hacc] at hv
          subst hv
          clear HD HST ha2 hm hp hl hle hcm hacc
          go_wp2_with (first | (go_at_call 43; refine HR2.out.mono ?_; rintro e w1 ⟨rfl, hb1⟩; have hw1 : wr.heap.size ≤ w1.heap.size := hb1.size; have HO1 := hideIt (own_below HO.out hb1); have HB1 := hideIt (below2 HB.out hb1)) | (at_builtin; refine wpList_append_own _ rfl _ _ 22 rfl w.heap.size 37 i0 (.agg #[.string ⟨#[]⟩, .string ⟨#[]⟩, .int .i64 0]) 3 40 Tryd.underlying22 hi0 hz0 hz1 hz2 rfl (by decide) _ _ _ rfl ((HO1.out.alloc _).alloc _) ⟨w1.heap.size + 1, 0, none⟩ 1 1 [.string X, .string Y, .int .i64 (a : Int)] rfl rfl (HTN.out w1) (fun u hu => by simp at hu; rcases hu with rfl | rfl | rfl <;> rfl) (by unfold maxLen; omega) (by omega) (by simp; omega) ?_; intro v3 w3 hown3 hg3 hnil3))
          go_roundw
          case rel =>
            refine ⟨i + 1, a2, p, acc ++ [⟨b, d, (a : Int)⟩], by omega, hk, p2, rfl, rfl, by go_num, by simp [HAC.out], by rw [hm2]; exact HD2, ?_, ?_⟩
            · rw [itsV_snoc]
              simp only [HXY.out.1, HXY.out.2]
              simpa [HAC.out] using hown3
            · exact Below.grown ((HB1.out.alloc (by omega) _).alloc (by simp; omega) _) hg3 (by simp; omega) (row_ge HO.out)
          case measure => simp [intOf]; omega
      · have HR2 : Hid (Calls Tryd.prog 43 #[.string T, .int .i64 (a : Int)] wr fun e w' => e = .returned (.tuple #[.agg #[.string ⟨#[]⟩, .string ⟨#[]⟩, .int .i64 0], .int .i64 0, .int .i64 (z : Int)]) ∧ Below wr.heap.size wr w') := hideIt (by have := HR1.out; rw [riV] at this; simp only [hz, if_false] at this; exact this)
        have z1 : ¬ (z : Int) = 0 := by omega
        have z2 : ((z : Int) != 0) = true := by simpa using z1
        have z3 : ((z : Int) == 0) = false := by simpa using z1
        have HD2 : Hid (R = (z, [])) := hideIt (by rw [← HD.out, HST.out, if_pos hz]; exact comb_err _ _ hz)
        clear HR1 HD HST HKK hz hm hm2
        go_wp2_with (first | (go_at_call 43; refine HR2.out.mono ?_; rintro e w1 ⟨rfl, hb1⟩))
        go_ret2
        refine (HT.out _ _).2 ⟨.slice none 0 0, ?_, ?_, below2 HB.out (below2 hb1 ((Below.refl _ _).alloc (Nat.le_refl _) _))⟩
        · rw [HD2.out]; rfl
        · rw [HD2.out]; exact ⟨rfl, .inl ⟨rfl, rfl⟩⟩
    · have hid : decide ((i : Int) < (n : Int)) = false := decide_eq_false (by omega)
      obtain rfl : i = n := by omega
      have HZ : Hid (ris spPp S (i - i) left a = if a < N then (5, []) else (0, [])) := hideIt (by rw [Nat.sub_self, ris, HNN.out])
      by_cases hlt2 : a < N
      · have g1 : (a : Int) < (N : Int) := by omega
        have g2 : decide ((a : Int) < (N : Int)) = true := decide_eq_true g1
        have HD2 : Hid (R = (5, [])) := hideIt (by rw [← HD.out, HZ.out, if_pos hlt2]; exact comb_err _ _ (by omega))
        clear HD HZ
        go_wp2
        go_ret2
        refine (HT.out _ _).2 ⟨.slice none 0 0, ?_, ?_, HB.out⟩
        · rw [HD2.out]; rfl
        · rw [HD2.out]; exact ⟨rfl, .inl ⟨rfl, rfl⟩⟩
      · have g1 : ¬ (a : Int) < (N : Int) := by omega
        have g2 : decide ((a : Int) < (N : Int)) = false := decide_eq_false g1
        have HD2 : Hid (R = (0, acc)) := hideIt (by rw [← HD.out, HZ.out, if_neg hlt2]; simp [comb])
        clear HD HZ
        go_wp2
        go_ret2
        refine (HT.out _ _).2 ⟨u8, ?_, ?_, HB.out⟩
        · rw [HD2.out]; rfl
        · rw [HD2.out]; exact HO.out
end Go.Proofs.YtjiigdjopcegeaaDoor.Pk
