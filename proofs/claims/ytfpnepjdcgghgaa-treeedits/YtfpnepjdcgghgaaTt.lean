/- Trees: an entry laid, an entry taken away, walked. -/
import Derived.Test.YtfpnepjdcgghgaaTa
namespace Go.Proofs.Ytfpnepjdcgghgaa
open Go.RowKit Go.Shelf
def withL (l : List En) (x : En) : List En := l.take (pos l x.nm) ++ [x] ++ l.drop (pos l x.nm + (found l x.nm).toNat)
def withoutL (l : List En) (t : ByteArray) : List En := l.take (pos l t) ++ l.drop (pos l t + (found l t).toNat)
theorem ECells.sub {w : World} {b o : Nat} {l : List En} (h : ECells w b o l) (k m : Nat) : ECells w b (o + k * 3) ((l.drop k).take m) :=
  ⟨h.1, fun i x hx => by
    have hx' : l[k + i]? = some x := by
      rw [List.getElem?_take] at hx
      split at hx
      · rw [List.getElem?_drop] at hx; exact hx
      · cases hx
    have := h.2 (k + i) x hx'
    rw [show o + (k + i) * 3 = o + k * 3 + i * 3 by omega] at this
    exact this⟩
theorem row_cells {w : World} {B n : Nat} {t : TypeId} {g cap : Nat} {l : List En} (h : w.ownsRow B t 3 (.slice (some ⟨g, 0, none⟩) n cap) l.length (esV l)) : ECells w g 0 l ∨ l = [] := by
  obtain ⟨a, c, e, _, _, hr⟩ := ERow.of_row h
  simp only [Value.slice.injEq] at e
  obtain ⟨rfl, -, -⟩ := e
  rcases Nat.eq_zero_or_pos l.length with h0 | h0
  · exact .inr (List.length_eq_zero_iff.1 h0)
  · obtain ⟨b, o, e, hc⟩ := hr h0
    cases e
    exact .inl hc
/-- A part of a row, as a row. -/
theorem part_row {w : World} {g cap : Nat} {l : List En} (hc : ECells w g 0 l ∨ l = []) (hcap : cap ≤ maxLen) (k m : Nat) (hkm : k + m ≤ l.length) (c' : Nat) (hc' : m ≤ c') (hc2 : c' ≤ cap) : ERow w (.slice (some ⟨g, k * 3, none⟩) m c') ((l.drop k).take m) := by
  have hlen : ((l.drop k).take m).length = m := by rw [List.length_take, List.length_drop]; omega
  refine ⟨some ⟨g, k * 3, none⟩, c', by rw [hlen], by rw [hlen]; exact hc', ⟨by omega, fun h => by cases h⟩, fun h0 => ?_⟩
  rcases hc with hc | hc
  · refine ⟨g, k * 3, rfl, ?_⟩
    have := hc.sub k m
    rwa [Nat.zero_add] at this
  · subst hc
    simp at h0
theorem own_mono {w : World} {B B' n s : Nat} {t : TypeId} {v : Value} {xs : List Value} (h : w.ownsRow B t s v n xs) (hB : B' ≤ B) : w.ownsRow B' t s v n xs := by
  refine ⟨h.1, ?_⟩
  rcases h.2 with h0 | ⟨g, cap, cur, e, h1, r⟩
  · exact .inl h0
  · exact .inr ⟨g, cap, cur, e, by omega, r⟩
theorem third_row {w : World} {g cap n q : Nat} {l : List En} (hc : ECells w g 0 l ∨ l = []) (hcap : cap ≤ maxLen) (hn : l.length = n) (hq : q ≤ n) (hnc : n ≤ cap) : ERow w (.slice (if cap = q then some ⟨g, 0, none⟩ else some ⟨g, q * 3, none⟩) (n - q) (cap - q)) (l.drop q) := by
  have hd : l.drop q = (l.drop q).take (n - q) := by rw [List.take_of_length_le]; rw [List.length_drop]; omega
  by_cases h : cap = q
  · rw [if_pos h]
    have hz : n - q = 0 := by omega
    have hl : l.drop q = [] := List.drop_eq_nil_of_le (by omega)
    rw [hl, hz, h, Nat.sub_self]
    exact ⟨some ⟨g, 0, none⟩, 0, rfl, Nat.le_refl _, ⟨Nat.zero_le _, fun h => by cases h⟩, fun h => by simp at h⟩
  · rw [if_neg h, hd]
    exact part_row hc hcap q (n - q) (by omega) (cap - q) (by omega) (by omega)
theorem first_row {w : World} {g cap n p : Nat} {l : List En} (hc : ECells w g 0 l ∨ l = []) (hcap : cap ≤ maxLen) (hn : l.length = n) (hp : p ≤ n) (hnc : n ≤ cap) : ERow w (.slice (some ⟨g, 0, none⟩) p cap) (l.take p) := by
  have := part_row (k := 0) hc hcap p (by omega) cap (by omega) (Nat.le_refl _)
  simpa using this
abbrev EO (x : En) : Obj := .cells #[.string x.nm, .int .i64 x.md, .string x.ids] 36
theorem EO_row (w : World) (x : En) : ERow (w.alloc (EO x)) (.slice (some ⟨w.heap.size, 0, none⟩) 1 1) [x] := by
  refine ⟨some ⟨w.heap.size, 0, none⟩, 1, rfl, Nat.le_refl _, ⟨by unfold maxLen; omega, fun h => by cases h⟩, fun _ => ⟨w.heap.size, 0, rfl, by simp, fun i y hy => ?_⟩⟩
  cases i with
  | zero => simp at hy; subst hy; exact ⟨by simp, by simp, by simp⟩
  | succ i => simp at hy
theorem CatTo.from {w w1 : World} {l : List En} {e : Ending} {w' : World} (h : CatTo w1 l e w') (hb : Below w.heap.size w w1) : CatTo w l e w' := by
  obtain ⟨v, h1, h2, h3⟩ := h
  exact ⟨v, h1, own_mono h2 hb.size, below2 hb h3⟩
/-- Three rows, the second of which is new, one behind the other. -/
theorem cat3 (w : World) (x : En) (V1 V3 : Value) (l1 l3 : List En) (h1 : ERow w V1 l1) (h3 : ERow w V3 l3) (hl : l1.length + l3.length ≤ 2000) :
    Calls Try.prog 29 #[.slice (some ⟨w.heap.size + 1, 0, none⟩) 3 3] ((w.alloc (EO x)).alloc (.cells #[V1, .slice (some ⟨w.heap.size, 0, none⟩) 1 1, V3] 22)).drew fun e w' => CatTo w (l1 ++ [x] ++ l3) e w' := by
  have hbA : Below w.heap.size w (w.alloc (EO x)) := (Below.refl _ _).alloc (Nat.le_refl _) _
  have hbB : Below (w.alloc (EO x)).heap.size (w.alloc (EO x)) ((w.alloc (EO x)).alloc (.cells #[V1, .slice (some ⟨w.heap.size, 0, none⟩) 1 1, V3] 22)).drew := ((Below.refl _ _).alloc (Nat.le_refl _) _).drew
  have hbC := below2 hbA hbB
  have hrow : ((w.alloc (EO x)).alloc (.cells #[V1, .slice (some ⟨w.heap.size, 0, none⟩) 1 1, V3] 22)).drew.heap[w.heap.size + 1]? = some (.cells #[V1, .slice (some ⟨w.heap.size, 0, none⟩) 1 1, V3] 22 (0, 0)) := by
    show ((w.alloc (EO x)).alloc _).heap[w.heap.size + 1]? = _
    exact alloc_at (by simp)
  refine (concat_any (w.heap.size + 1) [(V1, l1), (.slice (some ⟨w.heap.size, 0, none⟩) 1 1, [x]), (V3, l3)] 3 _ ⟨block_lt hrow, ?_⟩ (by simp) (by simp) (by simp [flat]; omega)).mono ?_
  · intro i p hp
    match i, hp with
    | 0, hp => simp at hp; subst hp; exact ⟨cellAt hrow rfl, h1.below hbC⟩
    | 1, hp => simp at hp; subst hp; exact ⟨cellAt hrow rfl, (EO_row w x).below hbB⟩
    | 2, hp => simp at hp; subst hp; exact ⟨cellAt hrow rfl, h3.below hbC⟩
    | i + 3, hp => simp at hp
  · intro e w' h
    have : flat [(V1, l1), (.slice (some ⟨w.heap.size, 0, none⟩) 1 1, [x]), (V3, l3)] = l1 ++ [x] ++ l3 := by simp [flat]
    rw [this] at h
    exact h.from hbC
theorem cat2 (w : World) (V1 V3 : Value) (l1 l3 : List En) (h1 : ERow w V1 l1) (h3 : ERow w V3 l3) (hl : l1.length + l3.length ≤ 2000) :
    Calls Try.prog 29 #[.slice (some ⟨w.heap.size, 0, none⟩) 2 2] (w.alloc (.cells #[V1, V3] 22)).drew fun e w' => CatTo w (l1 ++ l3) e w' := by
  have hbC : Below w.heap.size w (w.alloc (.cells #[V1, V3] 22)).drew := ((Below.refl _ _).alloc (Nat.le_refl _) _).drew
  have hrow : (w.alloc (.cells #[V1, V3] 22)).drew.heap[w.heap.size]? = some (.cells #[V1, V3] 22 (0, 0)) := by
    show (w.alloc _).heap[w.heap.size]? = _
    exact alloc_at rfl
  refine (concat_any w.heap.size [(V1, l1), (V3, l3)] 2 _ ⟨block_lt hrow, ?_⟩ (by simp) (by simp) (by simp [flat]; omega)).mono ?_
  · intro i p hp
    match i, hp with
    | 0, hp => simp at hp; subst hp; exact ⟨cellAt hrow rfl, h1.below hbC⟩
    | 1, hp => simp at hp; subst hp; exact ⟨cellAt hrow rfl, h3.below hbC⟩
    | i + 2, hp => simp at hp
  · intro e w' h
    have : flat [(V1, l1), (V3, l3)] = l1 ++ l3 := by simp [flat]
    rw [this] at h
    exact h.from hbC
set_option maxHeartbeats 1600000 in
set_option maxRecDepth 100000 in
theorem with_any (v : Value) (l : List En) (x : En) (B : Nat) (w : World) (h : w.ownsRow B 36 3 v l.length (esV l)) (hn : l.length ≤ 1000) (hu : Up l) :
    Calls Try.prog 16 #[v, .agg #[.string x.nm, .int .i64 x.md, .string x.ids]] w fun e w' => CatTo w (withL l x) e w' := by
  obtain ⟨W, hW⟩ : ∃ W, w.alloc (.cells #[.string x.nm, .int .i64 x.md, .string x.ids] 36) = W := ⟨_, rfl⟩
  have hbW : Below w.heap.size w W := by rw [← hW]; exact (Below.refl _ _).alloc (Nat.le_refl _) _
  have hbox : W.heap[w.heap.size]? = some (.cells #[.string x.nm, .int .i64 x.md, .string x.ids] 36 (0, 0)) := by rw [← hW]; exact alloc_at rfl
  obtain ⟨k0, k1, k2⟩ := three_cells hbox
  have hlt := block_lt hbox
  have hoW := own_below h hbW
  have HS := hideIt (place_any v l x.nm W (ERow.of_row hoW) (by omega) hu)
  have HT : Hid (∀ e w', CatTo w (withL l x) e w' ↔ ∃ v, e = .returned v ∧ w'.ownsRow w.heap.size 36 3 v (withL l x).length (esV (withL l x)) ∧ Below w.heap.size w w') := hideIt (fun _ _ => Iff.rfl)
  have HBX := hideIt hbox
  have HBW := hideIt hbW
  have HO := hideIt hoW
  have HC := hideIt (concat_any)
  have HFL := hideIt (found_lt l x.nm)
  have HPL := hideIt (pos_le l x.nm)
  have HWL : Hid (withL l x = l.take (pos l x.nm) ++ [x] ++ l.drop (pos l x.nm + (found l x.nm).toNat)) := rfl
  obtain ⟨n, hnn⟩ : ∃ n, l.length = n := ⟨_, rfl⟩
  obtain ⟨p, hpp⟩ : ∃ p, pos l x.nm = p := ⟨_, rfl⟩
  obtain ⟨q, hqq⟩ : ∃ q, p + (found l x.nm).toNat = q := ⟨_, rfl⟩
  have hpn : p ≤ n := by have := HPL.out; omega
  have hqn : q ≤ n := by
    cases hf : found l x.nm with
    | false => rw [← hqq, hf]; simpa using hpn
    | true => have := HFL.out hf; rw [← hqq, hf]; simp; omega
  rw [hpp, hqq] at HS HWL
  rw [hnn] at hn
  have HN := hideIt hnn
  have p1 : (p : Int) ≤ (n : Int) := by omega
  have p2 : (q : Int) ≤ (n : Int) := by omega
  have nI : (n : Int) ≤ 1000 := by omega
  have q1 : (0 : Int) ≤ (p : Int) := by omega
  have q2 : (0 : Int) ≤ (q : Int) := by omega
  rcases h.2 with ⟨rfl, h0⟩ | ⟨g, cap, cur, rfl, _, _, hc1, hc2, _⟩
  · obtain rfl : n = 0 := by omega
    obtain rfl : p = 0 := by omega
    obtain rfl : q = 0 := by omega
    clear h hoW hbW hbox HFL HPL hpp hqq hnn
    go_enter Try.func16, Try.ntmps16
    go_wp2_with (first | (go_at_call 28; refine HS.out.mono ?_; rintro e w1 ⟨rfl, hb1⟩; obtain ⟨x0, x1, x2⟩ := three_cells ((hb1.block _ hlt).trans HBX.out)))
    have hl0 : l = [] := List.length_eq_zero_iff.1 HN.out
    have HEND := hideIt (cat3 w1 x _ _ _ _ (ERow.nil w1) (ERow.nil w1) (by simp))
    have HB1 := hideIt (below2 HBW.out hb1)
    have HWL2 : Hid (withL l x = [] ++ [x] ++ []) := hideIt (by rw [HWL.out, hl0]; rfl)
    have HXC : Hid (∀ w2, Below w1.heap.size w1 w2 → w2.cell? ⟨w.heap.size, 0, none⟩ = some (.string x.nm) ∧ w2.cell? ⟨w.heap.size, 1, none⟩ = some (.int .i64 x.md) ∧ w2.cell? ⟨w.heap.size, 2, none⟩ = some (.string x.ids)) := hideIt (fun w2 h2 => three_cells (((below2 hb1 h2).block _ hlt).trans HBX.out))
    clear hb1 hl0
    go_region_held3 (fun X => X.cell? ⟨w.heap.size, 0, none⟩ = some (.string x.nm) ∧ X.cell? ⟨w.heap.size, 1, none⟩ = some (.int .i64 x.md) ∧ X.cell? ⟨w.heap.size, 2, none⟩ = some (.string x.ids)) (first | exact ⟨x0, x1, x2⟩ | exact HXC.out _ hb2 | go_keep) (first | (go_at_call 29; refine HEND.out.mono ?_; rintro e w2 ⟨v2, rfl, ho2, hb2⟩))
    go_wp2
    go_ret
    refine (HT.out _ _).2 ⟨_, rfl, ?_, below2 HB1.out hb2⟩
    rw [HWL2.out]
    exact own_mono ho2 HB1.out.size
  · rw [hnn] at hc1 HS ⊢
    have c1 : (n : Int) ≤ (cap : Int) := by omega
    have c2 : (p : Int) ≤ (cap : Int) := by omega
    clear h hoW hbW hbox HFL HPL hpp hqq hnn
    go_enter Try.func16, Try.ntmps16
    go_wp2_with (first | (go_at_call 28; refine HS.out.mono ?_; rintro e w1 ⟨rfl, hb1⟩; obtain ⟨x0, x1, x2⟩ := three_cells ((hb1.block _ hlt).trans HBX.out)))
    have hcells := row_cells (own_below HO.out hb1)
    have HB1 := hideIt (below2 HBW.out hb1)
    have HXC : Hid (∀ w2, Below w1.heap.size w1 w2 → w2.cell? ⟨w.heap.size, 0, none⟩ = some (.string x.nm) ∧ w2.cell? ⟨w.heap.size, 1, none⟩ = some (.int .i64 x.md) ∧ w2.cell? ⟨w.heap.size, 2, none⟩ = some (.string x.ids)) := hideIt (fun w2 h2 => three_cells (((below2 hb1 h2).block _ hlt).trans HBX.out))
    have ht := third_row hcells hc2 HN.out hqn hc1
    have HF := hideIt (first_row hcells hc2 HN.out hpn hc1)
    obtain ⟨r, hr⟩ : ∃ r, cap - q = r := ⟨_, rfl⟩
    obtain ⟨r2, hr2⟩ : ∃ r2, n - q = r2 := ⟨_, rfl⟩
    rw [hr, hr2] at ht
    have hI1 : ((cap : Int) - (q : Int)) = (r : Int) := by omega
    have hI2 : ((n : Int) - (q : Int)) = (r2 : Int) := by omega
    by_cases hcq : cap = q
    · obtain rfl : n = cap := by omega
      subst hcq
      obtain rfl : r = 0 := by omega
      obtain rfl : r2 = 0 := by omega
      rw [if_pos rfl] at ht
      clear hI1 hI2 hr hr2
      have HEND := hideIt (cat3 w1 x _ _ _ _ HF.out ht (by simp [HN.out]; omega))
      clear hcells hb1 ht
      go_region_held3 (fun X => X.cell? ⟨w.heap.size, 0, none⟩ = some (.string x.nm) ∧ X.cell? ⟨w.heap.size, 1, none⟩ = some (.int .i64 x.md) ∧ X.cell? ⟨w.heap.size, 2, none⟩ = some (.string x.ids)) (first | exact ⟨x0, x1, x2⟩ | exact HXC.out _ hb2 | go_keep) (first | (go_at_call 29; refine HEND.out.mono ?_; rintro e w2 ⟨v2, rfl, ho2, hb2⟩))
      go_wp2
      go_ret
      refine (HT.out _ _).2 ⟨_, rfl, ?_, below2 HB1.out hb2⟩
      rw [HWL.out]
      exact own_mono ho2 HB1.out.size
    · rw [if_neg hcq] at ht
      have HEND := hideIt (cat3 w1 x _ _ _ _ HF.out ht (by simp [HN.out]; omega))
      clear hcells hb1 ht
      go_region_held3 (fun X => X.cell? ⟨w.heap.size, 0, none⟩ = some (.string x.nm) ∧ X.cell? ⟨w.heap.size, 1, none⟩ = some (.int .i64 x.md) ∧ X.cell? ⟨w.heap.size, 2, none⟩ = some (.string x.ids)) (first | exact ⟨x0, x1, x2⟩ | exact HXC.out _ hb2 | go_keep) (first | (go_at_call 29; refine HEND.out.mono ?_; rintro e w2 ⟨v2, rfl, ho2, hb2⟩))
      go_wp2
      go_ret
      refine (HT.out _ _).2 ⟨_, rfl, ?_, below2 HB1.out hb2⟩
      rw [HWL.out]
      exact own_mono ho2 HB1.out.size
end Go.Proofs.Ytfpnepjdcgghgaa
