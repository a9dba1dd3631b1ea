/- The law's cut: items that are not too many, and not too long, in two rows: walked. -/
import Derived.Test.YtjiigdjopcegeaaDoorPkKz
import Derived.Deep.RegionHeld3
namespace Go.Proofs.YtjiigdjopcegeaaDoor.Pk
open Cb Ld Go.RowKit Go.Shelf
/-- An item that is not too long; items that are not too many. -/
def cut1 (x : It) : It := ⟨x.b.take 40, x.d.take 400, x.pl⟩
def cutL (l : List It) : List It := (l.take 20).map cut1
theorem cutL_len (l : List It) : (cutL l).length ≤ 20 := by simp [cutL]; omega
theorem cut_snoc (l : List It) (i : Nat) (x : It) (h : l[i]? = some x) : (l.take (i + 1)).map cut1 = (l.take i).map cut1 ++ [cut1 x] := by
  obtain ⟨hi, rfl⟩ := List.getElem?_eq_some_iff.1 h
  rw [List.take_succ_eq_append_getElem hi, List.map_append]
  rfl
/-- The item's variable is as it was. -/
def XS (g : Nat) (p q : ByteArray) (z : Int) (X : World) : Prop := X.heap[g]? = some (.cells #[.string p, .string q, .int .i64 z] 37 (0, 0))
theorem XS.cells {g : Nat} {p q : ByteArray} {z : Int} {X : World} (h : XS g p q z X) : X.cell? ⟨g, 0, none⟩ = some (.string p) ∧ X.cell? ⟨g, 1, none⟩ = some (.string q) ∧ X.cell? ⟨g, 2, none⟩ = some (.int .i64 z) ∧ XS g p q z X := ⟨cellAt h rfl, cellAt h rfl, cellAt h rfl, h⟩
theorem XS.alloc {g : Nat} {p q : ByteArray} {z : Int} {X : World} (h : XS g p q z X) (o : Obj) : XS g p q z (X.alloc o) := by
  unfold XS at h ⊢
  rw [Below.heap_alloc _ _ _ (block_lt h)]
  exact h
theorem XS.grown {g : Nat} {p q : ByteArray} {z : Int} {X Y : World} {v : Value} (h : XS g p q z X) (hg : X.grownBy Y v.ownBlock) (hv : some g ≠ v.ownBlock) : XS g p q z Y := by
  unfold XS at h ⊢
  rw [hg.block g (block_lt h) hv]
  exact h
/-- A new row of one item, of a type. -/
def Pd (t : TypeId) (p q : ByteArray) (z : Int) (X : World) (g : Nat) : Prop := X.heap[g]? = some (.cells #[.string p, .string q, .int .i64 z] t (0, 0))
theorem Pd.cell {t : TypeId} {p q : ByteArray} {z : Int} {X : World} {g : Nat} (h : Pd t p q z X g) (j : Nat) (u : Value) (hj : [Value.string p, .string q, .int .i64 z][j]? = some u) : X.cell? ((⟨g, 0, none⟩ : Addr).add j) = some u := by
  match j, hj with
  | 0, hj => exact cellAt h (by simpa using hj)
  | 1, hj => exact cellAt h (by simpa using hj)
  | 2, hj => exact cellAt h (by simpa using hj)
  | j + 3, hj => simp at hj
theorem Pd.new (t : TypeId) (p q : ByteArray) (z : Int) (X : World) : Pd t p q z (X.alloc (.cells #[.string p, .string q, .int .i64 z] t)) X.heap.size := alloc_at rfl
theorem Pd.alloc {t : TypeId} {p q : ByteArray} {z : Int} {X : World} {g : Nat} (h : Pd t p q z X g) (o : Obj) : Pd t p q z (X.alloc o) g := by
  unfold Pd at h ⊢
  rw [Below.heap_alloc _ _ _ (block_lt h)]
  exact h
theorem other_type {w : World} {B n : Nat} {t t' : TypeId} {v : Value} {xs : List Value} {g : Nat} {cs : Array Value} {fr : Nat × Nat} (hv : w.ownsRow B t 3 v n xs) (hg : w.heap[g]? = some (.cells cs t' fr)) (ht : t' ≠ t) : some g ≠ v.ownBlock := by
  intro e
  rcases hv.2 with ⟨rfl, _⟩ | ⟨g', cap, cur, rfl, _, hh, _⟩
  · simp [Value.ownBlock] at e
  · simp [Value.ownBlock] at e
    subst e
    rw [hg] at hh
    simp only [Option.some.injEq, Obj.cells.injEq] at hh
    exact ht hh.2.1
theorem Pd.grown {t t' : TypeId} {p q : ByteArray} {z : Int} {X Y : World} {g B n : Nat} {v : Value} {xs : List Value} (h : Pd t p q z X g) (hv : X.ownsRow B t' 3 v n xs) (hg : X.grownBy Y v.ownBlock) (ht : t ≠ t') : Pd t p q z Y g := by
  unfold Pd at h ⊢
  rw [hg.block g (block_lt h) (other_type hv h ht)]
  exact h
theorem own_grown {t t' : TypeId} {X Y : World} {B n B' n' : Nat} {v v' : Value} {xs xs' : List Value} (h : X.ownsRow B t 3 v n xs) (hv : X.ownsRow B' t' 3 v' n' xs') (hg : X.grownBy Y v'.ownBlock) (ht : t ≠ t') : Y.ownsRow B t 3 v n xs := by
  refine ⟨h.1, ?_⟩
  rcases h.2 with h0 | ⟨g, cap, cur, e, h1, hh, r⟩
  · exact .inl h0
  · exact .inr ⟨g, cap, cur, e, h1, (hg.block g (block_lt hh) (other_type hv hh ht)).trans hh, r⟩
theorem own_ne {w : World} {B n : Nat} {t : TypeId} {v : Value} {xs : List Value} (hv : w.ownsRow B t 3 v n xs) : some w.heap.size ≠ v.ownBlock := by
  intro e
  rcases hv.2 with ⟨rfl, _⟩ | ⟨g', cap, cur, rfl, _, hh, _⟩
  · simp [Value.ownBlock] at e
  · simp [Value.ownBlock] at e
    have := block_lt hh
    omega
theorem Below.grown3 {w X Y : World} {B n : Nat} {t : TypeId} {v : Value} {xs : List Value} (hb : Below B w X) (hB : B ≤ X.heap.size) (hv : X.ownsRow B t 3 v n xs) (hg : X.grownBy Y v.ownBlock) : Below B w Y := hb.grown hg hB (row_ge hv)
theorem step_item {ops : Array Oper} {o : Oper} {a : Act} {X : World} {K : Act → World → Prop} {Q : Exit → Act → World → Prop} {E : Prop}
    (hg : o.guard = none) (s x : Operand) (t : TypeId) (hop : o.op = Op.call { callee := Callee.builtin Builtin.append, args := #[s, x], argTypes := #[t, t] })
    (base : Nat) (e : TypeId) (i : TypeInfo) (h1 : Tryd.prog.underlying t = some (.slice e)) (h2 : Tryd.prog.info? e = some i) (h3 : i.zero = some (.agg #[.string ⟨#[]⟩, .string ⟨#[]⟩, .int .i64 0])) (h4 : i.size = 3) (h5 : i.bytes = 40)
    (v : Value) (n : Nat) (xs : List Value) (hs : a.eval s = v) (hown : X.ownsRow base e 3 v n xs) (p q : ByteArray) (z : Int)
    (g : Nat) (hP : Pd e p q z X g) (hx : a.eval x = .slice (some ⟨g, 0, none⟩) 1 1) (hn : n ≤ 1000) (hbase : base ≤ X.heap.size)
    (hK : ∀ v' Y, Y.ownsRow base e 3 v' (n + 1) (xs ++ [.string p, .string q, .int .i64 z]) → X.grownBy Y v.ownBlock → K (a.put o.dst v') Y) :
    if Region.wanted o (yielded ops a.tmps) = true then Oper.wp Tryd.prog o a X K Q else E :=
  step_append_own hg s x t hop base e i (.agg #[.string ⟨#[]⟩, .string ⟨#[]⟩, .int .i64 0]) 3 40 h1 h2 h3 h4 h5 rfl (by decide) v n xs hs hown ⟨g, 0, none⟩ 1 1 [.string p, .string q, .int .i64 z] hx rfl (fun j u hj => hP.cell j u hj) (fun u hu => by simp at hu; rcases hu with rfl | rfl | rfl <;> rfl) (by unfold maxLen; omega) (by omega) hbase hK
/-- Both rows, with one item more. -/
def Fin2 (w : World) (n : Nat) (xs : List Value) (p q : ByteArray) (z : Int) (v1 v2 : Value) (Y : World) : Prop := Y.ownsRow w.heap.size 37 3 v1 (n + 1) (xs ++ [.string p, .string q, .int .i64 z]) ∧ Y.ownsRow w.heap.size 38 3 v2 (n + 1) (xs ++ [.string p, .string q, .int .i64 z]) ∧ Below w.heap.size w Y
/-- What the law's cut leaves. -/
def CutTo (w : World) (l : List It) (e : Ending) (w' : World) : Prop := ∃ v1 v2, e = .returned (.tuple #[v1, v2]) ∧ w'.ownsRow w.heap.size 37 3 v1 (cutL l).length (itsV (cutL l)) ∧ w'.ownsRow w.heap.size 38 3 v2 (cutL l).length (itsV (cutL l)) ∧ Below w.heap.size w w'
set_option maxHeartbeats 6400000 in
set_option maxRecDepth 100000 in
theorem cut_any (v : Value) (l : List It) (w : World) (h : IRow w v l) (hs : ∀ x ∈ l, x.b.length ≤ maxLen ∧ x.d.length ≤ maxLen) : Calls Tryd.prog 6 #[v] w fun e w' => CutTo w l e w' := by
  obtain ⟨i0, hi0, hz0, hz1, hz2⟩ := info_parts infoI
  obtain ⟨k0, hk0, hy0, hy1, hy2⟩ := info_parts infoJ
  have HT : Hid (∀ e w', CutTo w l e w' ↔ ∃ v1 v2, e = .returned (.tuple #[v1, v2]) ∧ w'.ownsRow w.heap.size 37 3 v1 (cutL l).length (itsV (cutL l)) ∧ w'.ownsRow w.heap.size 38 3 v2 (cutL l).length (itsV (cutL l)) ∧ Below w.heap.size w w') := hideIt (fun _ _ => Iff.rfl)
  obtain ⟨av, cv, rfl, hle, ⟨hcm, hnone⟩, hrow⟩ := h
  have HR := hideIt hrow
  have HSZ := hideIt (fun (i : Nat) (x : It) (hx : l[i]? = some x) => hs x (List.mem_of_getElem? hx))
  have HSN := hideIt (cut_snoc l)
  obtain ⟨n, hn⟩ : ∃ n, l.length = n := ⟨_, rfl⟩
  have HN := hideIt hn
  rw [hn] at hle HR ⊢
  have HE1 : Hid ((((w.alloc (.cells #[] 37)).alloc (.cells #[] 38))).ownsRow w.heap.size 37 3 (.slice (some ⟨w.heap.size, 0, none⟩) 0 0) 0 []) := hideIt ((own_empty (T := 37) (Below.refl w.heap.size w)).alloc _)
  have HE2 : Hid ((((w.alloc (.cells #[] 37)).alloc (.cells #[] 38))).ownsRow w.heap.size 38 3 (.slice (some ⟨w.heap.size + 1, 0, none⟩) 0 0) 0 []) := hideIt (by
    have := own_empty (T := 38) (w := w) (w1 := w.alloc (.cells #[] 37)) ((Below.refl _ _).alloc (Nat.le_refl _) _)
    simpa [itsV] using this)
  have HEB : Hid (Below w.heap.size w ((w.alloc (.cells #[] 37)).alloc (.cells #[] 38))) := hideIt (((Below.refl _ w).alloc (Nat.le_refl _) _).alloc (by simp) _)
  clear hn hs hrow hcm hle
  go_enter Tryd.func6, Tryd.ntmps6
  go_wp2
  go_loopw [4, 5, 6] (fun tv tm ti wr => ∃ i : Nat, i ≤ n ∧ i ≤ 20 ∧ ti = .int .i64 (i : Int) ∧ wr.ownsRow w.heap.size 37 3 tv i (itsV ((l.take i).map cut1)) ∧ wr.ownsRow w.heap.size 38 3 tm i (itsV ((l.take i).map cut1)) ∧ Below w.heap.size w wr) (fun _ _ ti _ => 20 - (intOf ti).toNat)
  case atStart => exact ⟨0, by omega, by omega, rfl, HE1.out, HE2.out, HEB.out⟩
  case round =>
    obtain ⟨i, hi, hi20, rfl, hr1, hr2, hb⟩ := hrel
    have HB := hideIt hb
    have hws : w.heap.size ≤ wr.heap.size := hb.size
    have i20 : (i : Int) ≤ 20 := by omega
    by_cases hlt : i < n ∧ i < 20
    · obtain ⟨hl1, hl2⟩ := hlt
      have q1 : (i : Int) < (n : Int) := by omega
      have q2 : decide ((i : Int) < (n : Int)) = true := decide_eq_true q1
      have q3 : (i : Int) < 20 := by omega
      have q4 : decide ((i : Int) < 20) = true := decide_eq_true q3
      obtain ⟨b, o, rfl, hcells⟩ := HR.out (by omega)
      obtain ⟨x, hxi⟩ : ∃ x, l[i]? = some x := ⟨l[i]'(by rw [HN.out]; exact hl1), by simp⟩
      obtain ⟨c0, c1, c2⟩ := (hcells.below HB.out).2 i x hxi
      obtain ⟨hsb, hsd⟩ := HSZ.out i x hxi
      unfold maxLen at hsb hsd
      have HSX := hideIt (HSN.out i x hxi)
      have eb := take_bs x.b 40
      have ed := take_bs x.d 400
      have sb : (bs x.b).size = x.b.length := bs_size _
      have sd : (bs x.d).size = x.d.length := bs_size _
      have HC1 : Hid (cut1 x = ⟨x.b.take 40, x.d.take 400, x.pl⟩) := hideIt rfl
      obtain ⟨p, hp⟩ : ∃ p, bs (x.b.take 40) = p := ⟨_, rfl⟩
      obtain ⟨q, hq⟩ : ∃ q, bs (x.d.take 400) = q := ⟨_, rfl⟩
      have nb : x.b.length ≤ 40 → bs x.b = p := fun h => by rw [← hp, List.take_of_length_le h]
      have nd : x.d.length ≤ 400 → bs x.d = q := fun h => by rw [← hq, List.take_of_length_le h]
      have HPQ : Hid (itsV ((l.take (i + 1)).map cut1) = itsV ((l.take i).map cut1) ++ [.string p, .string q, .int .i64 x.pl]) := hideIt (by rw [HSX.out, itsV_snoc, HC1.out]; simp only [hp, hq])
      rw [hp] at eb
      rw [hq] at ed
      generalize bs x.b = XB at c0 eb sb nb
      generalize bs x.d = XD at c1 ed sd nd
      generalize x.pl = z at c2 HPQ
      obtain ⟨W, hW⟩ : ∃ W, (wr.alloc (.cells #[.string p, .string q, .int .i64 z] 37)).drew = W := ⟨_, rfl⟩
      have HX0 : Hid (XS wr.heap.size p q z (wr.alloc (.cells #[.string p, .string q, .int .i64 z] 37)).drew) := hideIt (by unfold XS; rw [heap_drew]; exact alloc_at rfl)
      have HO1 : Hid ((wr.alloc (.cells #[.string p, .string q, .int .i64 z] 37)).drew.ownsRow w.heap.size 37 3 u4 i (itsV ((l.take i).map cut1))) := hideIt (hr1.alloc _).drew
      have HO2 : Hid ((wr.alloc (.cells #[.string p, .string q, .int .i64 z] 37)).drew.ownsRow w.heap.size 38 3 u5 i (itsV ((l.take i).map cut1))) := hideIt (hr2.alloc _).drew
      have HN1 := hideIt (own_ne hr1)
      have HN2 := hideIt (own_ne hr2)
      have HBB : Hid (Below w.heap.size w (wr.alloc (.cells #[.string p, .string q, .int .i64 z] 37)).drew) := hideIt (hb.alloc hws _).drew
      have hsz : w.heap.size ≤ (wr.alloc (.cells #[.string p, .string q, .int .i64 z] 37)).drew.heap.size := HBB.out.size
      generalize itsV ((l.take i).map cut1) = xs at HO1 HO2 HPQ
      clear hr1 hr2 hb hcells hp hq W hW
      have PA1 : Hid (Pd 37 p q z ((wr.alloc (.cells #[.string p, .string q, .int .i64 z] 37)).drew.alloc (.cells #[.string p, .string q, .int .i64 z] 37)) (wr.heap.size + 1)) := hideIt (by simpa using Pd.new 37 p q z (wr.alloc (.cells #[.string p, .string q, .int .i64 z] 37)).drew)
      have PB1 : Hid (Pd 38 p q z ((wr.alloc (.cells #[.string p, .string q, .int .i64 z] 37)).drew.alloc (.cells #[.string p, .string q, .int .i64 z] 38)) (wr.heap.size + 1)) := hideIt (by simpa using Pd.new 38 p q z (wr.alloc (.cells #[.string p, .string q, .int .i64 z] 37)).drew)
      have PA2 : Hid (Pd 37 p q z (((wr.alloc (.cells #[.string p, .string q, .int .i64 z] 37)).drew.alloc (.cells #[.string p, .string q, .int .i64 z] 37)).alloc (.cells #[.string p, .string q, .int .i64 z] 38)) (wr.heap.size + 1)) := hideIt (PA1.out.alloc _)
      have PB2 : Hid (Pd 38 p q z (((wr.alloc (.cells #[.string p, .string q, .int .i64 z] 37)).drew.alloc (.cells #[.string p, .string q, .int .i64 z] 38)).alloc (.cells #[.string p, .string q, .int .i64 z] 37)) (wr.heap.size + 1)) := hideIt (PB1.out.alloc _)
      have PA3 : Hid (Pd 37 p q z (((wr.alloc (.cells #[.string p, .string q, .int .i64 z] 37)).drew.alloc (.cells #[.string p, .string q, .int .i64 z] 38)).alloc (.cells #[.string p, .string q, .int .i64 z] 37)) (wr.heap.size + 1 + 1)) := hideIt (by simpa using Pd.new 37 p q z ((wr.alloc (.cells #[.string p, .string q, .int .i64 z] 37)).drew.alloc (.cells #[.string p, .string q, .int .i64 z] 38)))
      have PB3 : Hid (Pd 38 p q z (((wr.alloc (.cells #[.string p, .string q, .int .i64 z] 37)).drew.alloc (.cells #[.string p, .string q, .int .i64 z] 37)).alloc (.cells #[.string p, .string q, .int .i64 z] 38)) (wr.heap.size + 1 + 1)) := hideIt (by simpa using Pd.new 38 p q z ((wr.alloc (.cells #[.string p, .string q, .int .i64 z] 37)).drew.alloc (.cells #[.string p, .string q, .int .i64 z] 37)))
      have ne12 : (37 : TypeId) ≠ 38 := by decide
      have ne21 : (38 : TypeId) ≠ 37 := by decide
      have hi1000 : i ≤ 1000 := by omega
      have hcases : ((400 : Int) < (XD.size : Int) ∨ (¬ (400 : Int) < (XD.size : Int) ∧ q = XD)) ∧ ((40 : Int) < (XB.size : Int) ∨ (¬ (40 : Int) < (XB.size : Int) ∧ p = XB)) := by
        constructor
        · by_cases g : 400 < XD.size
          · exact .inl (by omega)
          · exact .inr ⟨by omega, (nd (by omega)).symm⟩
        · by_cases g : 40 < XB.size
          · exact .inl (by omega)
          · exact .inr ⟨by omega, (nb (by omega)).symm⟩
      clear nb nd sb sd hsb hsd
      obtain ⟨h1 | ⟨h1, e1⟩, h2 | ⟨h2, e2⟩⟩ := hcases
      all_goals (try subst e1)
      all_goals (try subst e2)
      all_goals go_wp2
      all_goals
        go_region_held3 (fun X => X.cell? ⟨wr.heap.size, 0, none⟩ = some (.string p) ∧ X.cell? ⟨wr.heap.size, 1, none⟩ = some (.string q) ∧ X.cell? ⟨wr.heap.size, 2, none⟩ = some (.int .i64 z) ∧ XS wr.heap.size p q z X) (first | (exact HX0.out.cells) | assumption | (exact SAB.out.cells) | (exact SA.out.cells) | (exact SB.out.cells) | (exact ((‹_ ∧ _ ∧ _ ∧ XS _ _ _ _ _›).2.2.2.alloc _).cells))
        (first
          | (refine step_item (by rfl) (.tmp 44) (.tmp 46) 23 (by rfl) w.heap.size 38 k0 Tryd.underlying23 hk0 hy0 hy1 hy2 u5 i xs (by rfl) O2A.out p q z _ PBA.out (by rfl) hi1000 BA.out.size ?_; intro vB wB hownB hgB; have FN : Hid (Fin2 w i xs p q z vA vB wB) := hideIt ⟨own_grown hownA O2A.out hgB ne12, hownB, Below.grown3 BA.out BA.out.size O2A.out hgB⟩; have SAB := hideIt (SA.out.grown (v := u5) hgB HN2.out))
          | (refine step_item (by rfl) (.tmp 44) (.tmp 46) 23 (by rfl) w.heap.size 38 k0 Tryd.underlying23 hk0 hy0 hy1 hy2 u5 i xs (by rfl) (O2A.out.alloc _) p q z _ (Pd.new 38 p q z wA) (by rfl) hi1000 (BA.out.alloc BA.out.size _).size ?_; intro vB wB hownB hgB; have FN : Hid (Fin2 w i xs p q z vA vB wB) := hideIt ⟨own_grown (hownA.alloc _) (O2A.out.alloc _) hgB ne12, hownB, Below.grown3 (BA.out.alloc BA.out.size _) (BA.out.alloc BA.out.size _).size (O2A.out.alloc _) hgB⟩; have SAB := hideIt ((SA.out.alloc _).grown (v := u5) hgB HN2.out))
          | (refine step_item (by rfl) (.tmp 40) (.tmp 42) 22 (by rfl) w.heap.size 37 i0 Tryd.underlying22 hi0 hz0 hz1 hz2 u4 i xs (by rfl) O1B.out p q z _ PAB.out (by rfl) hi1000 BB.out.size ?_; intro vA wA hownA hgA; have FN : Hid (Fin2 w i xs p q z vA vB wA) := hideIt ⟨hownA, own_grown hownB O1B.out hgA ne21, Below.grown3 BB.out BB.out.size O1B.out hgA⟩; have SAB := hideIt (SB.out.grown (v := u4) hgA HN1.out))
          | (refine step_item (by rfl) (.tmp 40) (.tmp 42) 22 (by rfl) w.heap.size 37 i0 Tryd.underlying22 hi0 hz0 hz1 hz2 u4 i xs (by rfl) (O1B.out.alloc _) p q z _ (Pd.new 37 p q z wB) (by rfl) hi1000 (BB.out.alloc BB.out.size _).size ?_; intro vA wA hownA hgA; have FN : Hid (Fin2 w i xs p q z vA vB wA) := hideIt ⟨hownA, own_grown (hownB.alloc _) (O1B.out.alloc _) hgA ne21, Below.grown3 (BB.out.alloc BB.out.size _) (BB.out.alloc BB.out.size _).size (O1B.out.alloc _) hgA⟩; have SAB := hideIt ((SB.out.alloc _).grown (v := u4) hgA HN1.out))
          | (refine step_item (by rfl) (.tmp 40) (.tmp 42) 22 (by rfl) w.heap.size 37 i0 Tryd.underlying22 hi0 hz0 hz1 hz2 u4 i xs (by rfl) (HO1.out.alloc _) p q z _ PA1.out (by rfl) hi1000 (HBB.out.alloc hsz _).size ?_; intro vA wA hownA hgA; have SA := hideIt ((HX0.out.alloc _).grown (v := u4) hgA HN1.out); have O2A := hideIt (own_grown (HO2.out.alloc _) (HO1.out.alloc _) hgA ne21); have BA := hideIt (Below.grown3 (HBB.out.alloc hsz _) (HBB.out.alloc hsz _).size (HO1.out.alloc _) hgA))
          | (refine step_item (by rfl) (.tmp 40) (.tmp 42) 22 (by rfl) w.heap.size 37 i0 Tryd.underlying22 hi0 hz0 hz1 hz2 u4 i xs (by rfl) ((HO1.out.alloc _).alloc _) p q z _ PA2.out (by rfl) hi1000 ((HBB.out.alloc hsz _).alloc (by simp; omega) _).size ?_; intro vA wA hownA hgA; have SA := hideIt (((HX0.out.alloc _).alloc _).grown (v := u4) hgA HN1.out); have O2A := hideIt (own_grown ((HO2.out.alloc _).alloc _) ((HO1.out.alloc _).alloc _) hgA ne21); have BA := hideIt (Below.grown3 ((HBB.out.alloc hsz _).alloc (by simp; omega) _) ((HBB.out.alloc hsz _).alloc (by simp; omega) _).size ((HO1.out.alloc _).alloc _) hgA); have PBA := hideIt (PB3.out.grown ((HO1.out.alloc _).alloc _) hgA ne21))
          | (refine step_item (by rfl) (.tmp 40) (.tmp 42) 22 (by rfl) w.heap.size 37 i0 Tryd.underlying22 hi0 hz0 hz1 hz2 u4 i xs (by rfl) ((HO1.out.alloc _).alloc _) p q z _ PA3.out (by rfl) hi1000 ((HBB.out.alloc hsz _).alloc (by simp; omega) _).size ?_; intro vA wA hownA hgA; have SA := hideIt (((HX0.out.alloc _).alloc _).grown (v := u4) hgA HN1.out); have O2A := hideIt (own_grown ((HO2.out.alloc _).alloc _) ((HO1.out.alloc _).alloc _) hgA ne21); have BA := hideIt (Below.grown3 ((HBB.out.alloc hsz _).alloc (by simp; omega) _) ((HBB.out.alloc hsz _).alloc (by simp; omega) _).size ((HO1.out.alloc _).alloc _) hgA); have PBA := hideIt (PB2.out.grown ((HO1.out.alloc _).alloc _) hgA ne21))
          | (refine step_item (by rfl) (.tmp 44) (.tmp 46) 23 (by rfl) w.heap.size 38 k0 Tryd.underlying23 hk0 hy0 hy1 hy2 u5 i xs (by rfl) (HO2.out.alloc _) p q z _ PB1.out (by rfl) hi1000 (HBB.out.alloc hsz _).size ?_; intro vB wB hownB hgB; have SB := hideIt ((HX0.out.alloc _).grown (v := u5) hgB HN2.out); have O1B := hideIt (own_grown (HO1.out.alloc _) (HO2.out.alloc _) hgB ne12); have BB := hideIt (Below.grown3 (HBB.out.alloc hsz _) (HBB.out.alloc hsz _).size (HO2.out.alloc _) hgB))
          | (refine step_item (by rfl) (.tmp 44) (.tmp 46) 23 (by rfl) w.heap.size 38 k0 Tryd.underlying23 hk0 hy0 hy1 hy2 u5 i xs (by rfl) ((HO2.out.alloc _).alloc _) p q z _ PB2.out (by rfl) hi1000 ((HBB.out.alloc hsz _).alloc (by simp; omega) _).size ?_; intro vB wB hownB hgB; have SB := hideIt (((HX0.out.alloc _).alloc _).grown (v := u5) hgB HN2.out); have O1B := hideIt (own_grown ((HO1.out.alloc _).alloc _) ((HO2.out.alloc _).alloc _) hgB ne12); have BB := hideIt (Below.grown3 ((HBB.out.alloc hsz _).alloc (by simp; omega) _) ((HBB.out.alloc hsz _).alloc (by simp; omega) _).size ((HO2.out.alloc _).alloc _) hgB); have PAB := hideIt (PA3.out.grown ((HO2.out.alloc _).alloc _) hgB ne12))
          | (refine step_item (by rfl) (.tmp 44) (.tmp 46) 23 (by rfl) w.heap.size 38 k0 Tryd.underlying23 hk0 hy0 hy1 hy2 u5 i xs (by rfl) ((HO2.out.alloc _).alloc _) p q z _ PB3.out (by rfl) hi1000 ((HBB.out.alloc hsz _).alloc (by simp; omega) _).size ?_; intro vB wB hownB hgB; have SB := hideIt (((HX0.out.alloc _).alloc _).grown (v := u5) hgB HN2.out); have O1B := hideIt (own_grown ((HO1.out.alloc _).alloc _) ((HO2.out.alloc _).alloc _) hgB ne12); have BB := hideIt (Below.grown3 ((HBB.out.alloc hsz _).alloc (by simp; omega) _) ((HBB.out.alloc hsz _).alloc (by simp; omega) _).size ((HO2.out.alloc _).alloc _) hgB); have PAB := hideIt (PA2.out.grown ((HO2.out.alloc _).alloc _) hgB ne12)))
    
      all_goals go_wp2
      all_goals
        go_roundw
        case rel =>
          exact ⟨i + 1, by omega, by omega, by go_num, by rw [HPQ.out]; exact FN.out.1, by rw [HPQ.out]; exact FN.out.2.1, FN.out.2.2⟩
        case measure => simp [intOf]; omega
    · have HF : Hid ((l.take i).map cut1 = cutL l) := hideIt (by
        have : i = n ∨ i = 20 := by omega
        rcases this with rfl | rfl
        · rw [cutL, ← HN.out, List.take_length]
          rw [List.take_of_length_le (by rw [HN.out]; omega)]
        · rfl)
      have HCL : Hid (i = (cutL l).length) := hideIt (by
        rw [← HF.out, List.length_map, List.length_take, HN.out]
        omega)
      rw [HF.out] at hr1 hr2
      have HO1 := hideIt hr1
      have HO2 := hideIt hr2
      rw [HCL.out] at HO1 HO2
      clear hr1 hr2 hb
      have hc2 : (¬ (i : Int) < (n : Int) ∧ decide ((i : Int) < (n : Int)) = false) ∨ ((i : Int) < (n : Int) ∧ decide ((i : Int) < (n : Int)) = true ∧ ¬ (i : Int) < 20 ∧ decide ((i : Int) < 20) = false) := by
        by_cases g : (i : Int) < (n : Int)
        · exact .inr ⟨g, decide_eq_true g, by omega, decide_eq_false (by omega)⟩
        · exact .inl ⟨g, decide_eq_false g⟩
      clear hlt
      rcases hc2 with ⟨g1, g2⟩ | ⟨g1, g2, g3, g4⟩
      · go_wp2
        go_ret2
        exact (HT.out _ _).2 ⟨u4, u5, rfl, HO1.out, HO2.out, HB.out⟩
      · go_wp2
        go_ret2
        exact (HT.out _ _).2 ⟨u4, u5, rfl, HO1.out, HO2.out, HB.out⟩
end Go.Proofs.YtjiigdjopcegeaaDoor.Pk
