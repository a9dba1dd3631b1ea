/- Links: plain, and rows of them in memory. -/
import Derived.Test.YtmjffngpaoaflaaGreatDoorOk
import Derived.Test.YtmjffngpaoaflaaGreatDoorOg
import Derived.Test.YtmjffngpaoaflaaGreatDoorOo
import Derived.Test.YtmjffngpaoaflaaGreatDoorTf
import Derived.ArgAppend
namespace Go.Proofs.YtmjffngpaoaflaaGreatDoor
namespace Ob
open Go.RowKit Go.Shelf
/-- A link: a kind and an id. -/
structure Lnk where
  kd : Int
  ids : ByteArray
def lkV (x : Lnk) : List Value := [.int .i64 x.kd, .string x.ids]
def lksV (l : List Lnk) : List Value := l.flatMap lkV
theorem lksV_len : ∀ l : List Lnk, (lksV l).length = l.length * 2
  | [] => rfl
  | x :: t => by
    have := lksV_len t
    unfold lksV at this ⊢
    simp [lkV] at this ⊢
    omega
theorem lksV_at : ∀ (l : List Lnk) (j : Nat) (x : Lnk), l[j]? = some x → (lksV l)[j * 2]? = some (.int .i64 x.kd) ∧ (lksV l)[j * 2 + 1]? = some (.string x.ids)
  | [], j, x, h => by simp at h
  | y :: t, 0, x, h => by
    simp at h
    subst h
    exact ⟨rfl, rfl⟩
  | y :: t, j + 1, x, h => by
    have h' : t[j]? = some x := by simpa using h
    obtain ⟨a, b⟩ := lksV_at t j x h'
    have e : lksV (y :: t) = .int .i64 y.kd :: .string y.ids :: lksV t := rfl
    rw [e, show (j + 1) * 2 = j * 2 + 1 + 1 by omega]
    exact ⟨by simpa using a, by simpa using b⟩
theorem lksV_snoc (l : List Lnk) (x : Lnk) : lksV (l ++ [x]) = lksV l ++ [.int .i64 x.kd, .string x.ids] := by simp [lksV, lkV]
/-- Links that lie in memory one behind the other. -/
def LCells (w : World) (b o : Nat) (l : List Lnk) : Prop := b < w.heap.size ∧ ∀ (i : Nat) (x : Lnk), l[i]? = some x → w.cell? ⟨b, o + i * 2, none⟩ = some (.int .i64 x.kd) ∧ w.cell? ⟨b, o + i * 2 + 1, none⟩ = some (.string x.ids)
def LRow (w : World) (v : Value) (l : List Lnk) : Prop := ∃ a c, v = .slice a l.length c ∧ l.length ≤ c ∧ (c ≤ maxLen ∧ (a = none → c = 0)) ∧ (0 < l.length → ∃ b o, a = some ⟨b, o, none⟩ ∧ LCells w b o l)
theorem LCells.below {w w' : World} {b o : Nat} {l : List Lnk} (h : LCells w b o l) (hb : Below w.heap.size w w') : LCells w' b o l :=
  ⟨Nat.lt_of_lt_of_le h.1 hb.size, fun i x hx => by
    obtain ⟨h1, h2⟩ := h.2 i x hx
    exact ⟨by rw [hb.cell (p := ⟨b, o + i * 2, none⟩) h.1]; exact h1, by rw [hb.cell (p := ⟨b, o + i * 2 + 1, none⟩) h.1]; exact h2⟩⟩
theorem LRow.below {w w' : World} {v : Value} {l : List Lnk} (h : LRow w v l) (hb : Below w.heap.size w w') : LRow w' v l := by
  obtain ⟨a, c, h1, h2, h3, h4⟩ := h
  refine ⟨a, c, h1, h2, h3, fun h0 => ?_⟩
  obtain ⟨b, o, e, hc⟩ := h4 h0
  exact ⟨b, o, e, hc.below hb⟩
theorem LRow.nil (w : World) : LRow w (.slice none 0 0) [] := ⟨none, 0, rfl, Nat.le_refl _, ⟨Nat.zero_le _, fun _ => rfl⟩, fun h => by simp at h⟩
theorem LRow.of_row {w : World} {B : Nat} {t : TypeId} {v : Value} {l : List Lnk} (h : w.ownsRow B t 2 v l.length (lksV l)) : LRow w v l := by
  rcases h.2 with ⟨e, h0⟩ | ⟨g, cap, cur, e, h1, hg, h2, h3, r⟩
  · exact ⟨none, 0, by rw [e, h0], by omega, ⟨by unfold maxLen; omega, fun _ => rfl⟩, fun hp => by omega⟩
  · subst e
    refine ⟨some ⟨g, 0, none⟩, cap, rfl, h2, ⟨h3, fun h => by cases h⟩, fun _ => ⟨g, 0, rfl, block_lt hg, fun j x hj => ?_⟩⟩
    have hl : j < l.length := (List.getElem?_eq_some_iff.1 hj).1
    obtain ⟨a, b⟩ := lksV_at l j x hj
    refine ⟨?_, ?_⟩
    · rw [Nat.zero_add, h.cellAt (j * 2) (by omega), a]
    · rw [Nat.zero_add, h.cellAt (j * 2 + 1) (by omega), b]
theorem two_new {w : World} (x : Lnk) (t : TypeId) (j : Nat) (u : Value) (h : [Value.int .i64 x.kd, .string x.ids][j]? = some u) : (w.alloc (.cells #[.int .i64 x.kd, .string x.ids] t)).cell? ((⟨w.heap.size, 0, none⟩ : Addr).add j) = some u := by
  have hrow : (w.alloc (.cells #[.int .i64 x.kd, .string x.ids] t)).heap[w.heap.size]? = some (.cells #[.int .i64 x.kd, .string x.ids] t (0, 0)) := Cb.alloc_at rfl
  match j, h with
  | 0, h => exact cellAt hrow (by simpa using h)
  | 1, h => exact cellAt hrow (by simpa using h)
  | j + 2, h => simp at h
/-- A row of links that the call itself has made, or none yet. -/
def LOwn (w : World) (B : Nat) (t : TypeId) (v : Value) (l : List Lnk) : Prop := (l = [] ∧ ∃ a, v = .slice a 0 0) ∨ w.ownsRow B t 2 v l.length (lksV l)
theorem LOwn.below {w w' : World} {B : Nat} {t : TypeId} {v : Value} {l : List Lnk} (h : LOwn w B t v l) (hb : Below w.heap.size w w') : LOwn w' B t v l := by
  rcases h with h | h
  · exact .inl h
  · exact .inr (own_below h hb)
theorem LOwn.row {w : World} {B : Nat} {t : TypeId} {v : Value} {l : List Lnk} (h : LOwn w B t v l) : LRow w v l := by
  rcases h with ⟨rfl, a, rfl⟩ | h
  · exact ⟨a, 0, rfl, Nat.le_refl _, ⟨Nat.zero_le _, fun _ => rfl⟩, fun h => by simp at h⟩
  · exact LRow.of_row h
theorem own_ge {w : World} {B n s : Nat} {t : TypeId} {v : Value} {xs : List Value} (h : w.ownsRow B t s v n xs) : ∀ k, v.ownBlock = some k → B ≤ k := by
  intro k hk
  rcases h.2 with ⟨e, _⟩ | ⟨g, cap, cur, e, h1, _⟩
  · subst e; simp [Value.ownBlock] at hk
  · subst e; simp [Value.ownBlock] at hk; omega
theorem own_mono {w : World} {B B' n s : Nat} {t : TypeId} {v : Value} {xs : List Value} (h : w.ownsRow B t s v n xs) (hB : B' ≤ B) : w.ownsRow B' t s v n xs := by
  refine ⟨h.1, ?_⟩
  rcases h.2 with h0 | ⟨g, cap, cur, e, h1, r⟩
  · exact .inl h0
  · exact .inr ⟨g, cap, cur, e, by omega, r⟩
theorem own_one (w : World) (B : Nat) (t : TypeId) (x : Lnk) (hB : B ≤ w.heap.size) : (w.alloc (.cells #[.int .i64 x.kd, .string x.ids] t)).ownsRow B t 2 (.slice (some ⟨w.heap.size, 0, none⟩) 1 1) 1 (lksV [x]) :=
  ⟨rfl, .inr ⟨w.heap.size, 1, #[.int .i64 x.kd, .string x.ids], rfl, hB, Cb.alloc_at rfl, Nat.le_refl _, by unfold maxLen; omega, rfl, rfl⟩⟩
/-- append(own, one link). -/
theorem append_lk (w : World) {ops : Array Oper} {rest : List Oper} {o : Oper} {a : Act} {Q : Exit → Act → World → Prop} (hgd : o.guard = none) (s x : Operand) (T t : TypeId)
    (ho : o.op = .call { callee := .builtin .append, args := #[s, x], argTypes := #[T, T] }) (i0 : TypeInfo) (hT : Tryz.prog.underlying T = some (.slice t)) (hi0 : Tryz.prog.info? t = some i0) (hz0 : i0.zero = some (.agg #[.int .i64 0, .string ⟨#[]⟩])) (hz1 : i0.size = 2) (hz2 : i0.bytes = 24)
    (B : Nat) (v : Value) (acc : List Lnk) (hs : a.eval s = v) (hown : LOwn w B t v acc) (ad : Addr) (y : Lnk) (hx : a.eval x = .slice (some ad) 1 1) (hc : ∀ j u, [Value.int .i64 y.kd, .string y.ids][j]? = some u → w.cell? (ad.add j) = some u) (hlen : acc.length ≤ 100000) (hB : B ≤ w.heap.size)
    (h : ∀ v' w', w'.ownsRow B t 2 v' (acc.length + 1) (lksV (acc ++ [y])) → Below B w w' → wpList Tryz.prog ops Q rest (a.put o.dst v') w') : wpList Tryz.prog ops Q (o :: rest) a w := by
  have h1 : ∀ u ∈ [Value.int .i64 y.kd, .string y.ids], u.oneCell' = true := fun u hu => by simp at hu; rcases hu with rfl | rfl <;> rfl
  rcases hown with ⟨rfl, ao, rfl⟩ | hown
  · refine wpList_append_grows w hgd s x T ho t i0 (.agg #[.int .i64 0, .string ⟨#[]⟩]) 2 24 hT hi0 hz0 hz1 hz2 rfl (by decide) ao 0 0 [] hs (fun _ => ⟨rfl, rfl⟩) rfl (fun b _ j u hj => by simp at hj) ad 1 1 [.int .i64 y.kd, .string y.ids] hx rfl hc h1 (by omega) (by unfold maxLen; omega) (by omega) ?_
    intro v' w' hown' hg
    exact h v' w' (own_mono hown' hB) ((Below.refl B w).grown hg hB (fun k hk => by cases hk))
  · refine wpList_append_own w hgd s x T ho B t i0 (.agg #[.int .i64 0, .string ⟨#[]⟩]) 2 24 hT hi0 hz0 hz1 hz2 rfl (by decide) v acc.length (lksV acc) hs hown ad 1 1 [.int .i64 y.kd, .string y.ids] hx rfl hc h1 (by unfold maxLen; omega) (by omega) hB ?_
    intro v' w' hown' hg _
    exact h v' w' (by rw [lksV_snoc]; exact hown') ((Below.refl B w).grown hg hB (own_ge hown))
theorem infoL : (Tryz.prog.info? 37).map (fun i => (i.zero, i.size, i.bytes)) = some (some (.agg #[.int .i64 0, .string ⟨#[]⟩]), 2, 24) := by kernel_rfl
theorem infoM : (Tryz.prog.info? 36).map (fun i => (i.zero, i.size, i.bytes)) = some (some (.agg #[.int .i64 0, .string ⟨#[]⟩]), 2, 24) := by kernel_rfl
/-- What Links answers. -/
def tagLk (L : List UInt8) : List Lnk × Int := if (gT L).2 = 0 then ([⟨(gT L).1.kd, (gT L).1.tgt⟩], 0) else ([], (gT L).2)
def comLk (L : List UInt8) : List Lnk × Int := if gCz L = 0 then (⟨2, (gCm L).tr⟩ :: (gCm L).ps.map (fun p => ⟨3, p⟩), 0) else ([], gCz L)
def enLk (x : En) : Lnk := ⟨if x.md = 3 then 2 else 1, x.ids⟩
def treeLk (L : List UInt8) : List Lnk × Int := ((dec L).2.map enLk, (dec L).1)
def links (L : List UInt8) : List Lnk × Int := if (opn L).2.2 = 0 then (if (opn L).1 = 2 then treeLk (opn L).2.1 else if (opn L).1 = 3 then comLk (opn L).2.1 else if (opn L).1 = 4 then tagLk (opn L).2.1 else ([], 0)) else ([], (opn L).2.2)
def LkTo (w : World) (r : List Lnk × Int) (e : Ending) (w' : World) : Prop := ∃ v, e = .returned (.tuple #[v, .int .i64 r.2]) ∧ LRow w' v r.1 ∧ Below w.heap.size w w'
theorem decF_len : ∀ (f : Nat) (acc : List En) (s : List UInt8), acc.length ≤ 256 → (decF f acc s).2.length ≤ 256
  | 0, acc, s, h => by
    rw [decF, fin]
    simp only
    split
    · exact h
    · simp
  | f + 1, acc, s, h => by
    rw [decF]
    split
    · rw [fin]
      simp only
      split
      · exact h
      · simp
    · split
      · simp
      · split
        · simp
        · exact decF_len f _ _ (by rw [List.length_append]; simp; omega)
theorem dec_len (L : List UInt8) : (dec L).2.length ≤ 256 := decF_len _ _ _ (by simp)
theorem decF_err2 : ∀ (f : Nat) (acc : List En) (s : List UInt8), (decF f acc s).1 ≠ 0 → (decF f acc s).2 = []
  | 0, acc, s, h => by
    rw [decF, fin] at h ⊢
    simp only at h ⊢
    rw [if_neg h]
  | f + 1, acc, s, h => by
    rw [decF] at h ⊢
    split
    · rename_i hs
      rw [if_pos hs, fin] at h
      rw [fin]
      simp only at h ⊢
      rw [if_neg h]
    · rename_i hs
      rw [if_neg hs] at h
      split
      · rfl
      · rename_i x r hr
        rw [hr] at h
        simp only at h
        split
        · rfl
        · rename_i h2
          rw [if_neg h2] at h
          exact decF_err2 f _ _ h
theorem dec_err (L : List UInt8) (h : (dec L).1 ≠ 0) : (dec L).2 = [] := decF_err2 _ _ _ h
end Ob
end Go.Proofs.YtmjffngpaoaflaaGreatDoor
