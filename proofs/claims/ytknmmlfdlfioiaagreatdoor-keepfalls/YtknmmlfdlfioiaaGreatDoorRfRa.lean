/- Refs: rows in memory; refs, plain. -/
import Derived.Test.YtknmmlfdlfioiaaGreatDoorCbOwn
import Derived.Test.YtknmmlfdlfioiaaGreatDoorCbRefh
import Derived.Test.YtknmmlfdlfioiaaGreatDoorCbUnhexw
import Derived.Test.YtknmmlfdlfioiaaGreatDoorLbu
import Derived.Deep.RegionHeld3
import Derived.Deep.RegionWith
import Derived.BigQuiet
import Derived.Laws.CopyOwn
namespace Go.Proofs.YtknmmlfdlfioiaaGreatDoor.Rf
open Cb Go.RowKit
theorem hideIt {p : Prop} (h : p) : Hid p := h
theorem below_step {B : Nat} {w a b : World} (h : Below B w a) (hB : B ≤ w.heap.size) (k : Below a.heap.size a b) : Below B w b := h.trans (k.mono (Nat.le_trans hB h.size))
theorem below2 {w a b : World} (h : Below w.heap.size w a) (k : Below a.heap.size a b) : Below w.heap.size w b := below_step h (Nat.le_refl _) k
theorem cellAt {w : World} {g i : Nat} {cs : Array Value} {t : TypeId} {fr : Nat × Nat} {v : Value} (h : w.heap[g]? = some (.cells cs t fr)) (hv : cs[i]? = some v) : w.cell? ⟨g, i, none⟩ = some v := by simp [World.cell?, h, hv]
theorem block_lt {w : World} {g : Nat} {o : Obj} (h : w.heap[g]? = some o) : g < w.heap.size := by
  rcases Nat.lt_or_ge g w.heap.size with h' | h'
  · exact h'
  · simp [Array.getElem?_eq_none h'] at h
theorem bytes_ext {a b : ByteArray} (h : a.data.toList = b.data.toList) : a = b := ByteArray.ext (Array.toList_inj.1 h)
theorem below_drewN (w : World) (q : Nat) : Below w.heap.size w (w.drewN q) := ⟨rfl, rfl, rfl, Nat.le_refl _, fun _ _ => rfl⟩
theorem tl_eq {a b : ByteArray} : (a.toList == b.toList) = decide (a = b) := by
  by_cases h : a = b
  · subst h; simp
  · rw [decide_eq_false h, beq_eq_false_iff_ne]
    exact fun e => h (bytes_ext (by rwa [ByteArray.toList_eq, ByteArray.toList_eq] at e))
theorem tl_ne {a b : ByteArray} (h : ¬ a = b) : (a.toList == b.toList) = false ∧ ¬ a.toList = b.toList := by
  have : ¬ a.toList = b.toList := fun e => h (bytes_ext (by rwa [ByteArray.toList_eq, ByteArray.toList_eq] at e))
  exact ⟨beq_eq_false_iff_ne.2 this, this⟩
/-- Values that lie in memory one behind the other. -/
def VCells (w : World) (b o : Nat) (l : List Value) : Prop := b < w.heap.size ∧ ∀ i u, l[i]? = some u → w.cell? ⟨b, o + i, none⟩ = some u
/-- A row whose elements have k cells each. -/
def VRow (k : Nat) (w : World) (v : Value) (n : Nat) (l : List Value) : Prop := l.length = n * k ∧ ∃ a c, v = .slice a n c ∧ n ≤ c ∧ (c ≤ maxLen ∧ (a = none → c = 0)) ∧ (0 < n → ∃ b o, a = some ⟨b, o, none⟩ ∧ VCells w b o l)
theorem VCells.below {w w' : World} {b o : Nat} {l : List Value} (h : VCells w b o l) (hb : Below w.heap.size w w') : VCells w' b o l :=
  ⟨Nat.lt_of_lt_of_le h.1 hb.size, fun i u hu => by rw [hb.cell (p := ⟨b, o + i, none⟩) h.1]; exact h.2 i u hu⟩
theorem VRow.below {k n : Nat} {w w' : World} {v : Value} {l : List Value} (h : VRow k w v n l) (hb : Below w.heap.size w w') : VRow k w' v n l := by
  obtain ⟨h0, a, c, h1, h2, h3, h4⟩ := h
  refine ⟨h0, a, c, h1, h2, h3, fun hp => ?_⟩
  obtain ⟨b, o, e, hc⟩ := h4 hp
  exact ⟨b, o, e, hc.below hb⟩
theorem VRow.of_row {k n : Nat} {w : World} {B : Nat} {t : TypeId} {v : Value} {l : List Value} (h : w.ownsRow B t k v n l) : VRow k w v n l := by
  have hl := h.1
  rcases h.2 with ⟨e, h0⟩ | ⟨g, cap, cur, e, h1, hg, h2, h3, r⟩
  · exact ⟨hl, none, 0, by rw [e, h0], by omega, ⟨by unfold maxLen; omega, fun _ => rfl⟩, fun hp => by omega⟩
  · subst e
    refine ⟨hl, some ⟨g, 0, none⟩, cap, rfl, h2, ⟨h3, fun h => by cases h⟩, fun _ => ⟨g, 0, rfl, block_lt hg, fun j u hj => ?_⟩⟩
    rw [Nat.zero_add, h.cellAt j (by have := (List.getElem?_eq_some_iff.1 hj).1; omega), hj]
theorem new_empty (B k : Nat) (X : World) (t : TypeId) (h : B ≤ X.heap.size) : (X.alloc (.cells #[] t)).ownsRow B t k (.slice (some ⟨X.heap.size, 0, none⟩) 0 0) 0 [] :=
  ⟨by simp, .inr ⟨X.heap.size, 0, #[], rfl, h, alloc_at rfl, Nat.le_refl _, Nat.zero_le _, by simp, by simp⟩⟩
theorem row_ge {B n s : Nat} {t : TypeId} {v : Value} {xs : List Value} {w : World} (h : w.ownsRow B t s v n xs) : ∀ k, v.ownBlock = some k → B ≤ k := by
  intro k hk
  rcases h.2 with ⟨e, _⟩ | ⟨g, cap, cur, e, h1, _⟩
  · subst e; simp [Value.ownBlock] at hk
  · subst e; simp [Value.ownBlock] at hk; omega
theorem own_below {w w' : World} {B n s : Nat} {t : TypeId} {v : Value} {xs : List Value} (h : w.ownsRow B t s v n xs) (hb : Below w.heap.size w w') : w'.ownsRow B t s v n xs := by
  refine ⟨h.1, ?_⟩
  rcases h.2 with h0 | ⟨g, cap, cur, e, h1, hg, r⟩
  · exact .inl h0
  · exact .inr ⟨g, cap, cur, e, h1, (hb.block g (block_lt hg)).trans hg, r⟩
/-- A ref: its name, its id. -/
structure Rf where
  nm : ByteArray
  id : ByteArray
def rfV (x : Rf) : List Value := [.string x.nm, .string x.id]
def rfsV (l : List Rf) : List Value := l.flatMap rfV
theorem rfsV_len : ∀ l : List Rf, (rfsV l).length = l.length * 2
  | [] => rfl
  | x :: t => by
    have := rfsV_len t
    unfold rfsV at this ⊢
    simp [rfV] at this ⊢
    omega
theorem rfsV_append (l m : List Rf) : rfsV (l ++ m) = rfsV l ++ rfsV m := by simp [rfsV]
theorem rfsV_at : ∀ (l : List Rf) (j : Nat) (x : Rf), l[j]? = some x → (rfsV l)[j * 2]? = some (.string x.nm) ∧ (rfsV l)[j * 2 + 1]? = some (.string x.id)
  | [], j, x, h => by simp at h
  | y :: t, 0, x, h => by
    simp at h
    subst h
    exact ⟨rfl, rfl⟩
  | y :: t, j + 1, x, h => by
    have h' : t[j]? = some x := by simpa using h
    obtain ⟨a, b⟩ := rfsV_at t j x h'
    have e : rfsV (y :: t) = .string y.nm :: .string y.id :: rfsV t := rfl
    rw [e, show (j + 1) * 2 = j * 2 + 1 + 1 by omega]
    exact ⟨by simpa using a, by simpa using b⟩
theorem rfsV_one (l : List Rf) : ∀ u ∈ rfsV l, u.oneCell' = true := by
  intro u hu
  obtain ⟨x, _, h⟩ := List.mem_flatMap.1 hu
  simp [rfV] at h
  rcases h with rfl | rfl <;> rfl
theorem rfsV_drop (l : List Rf) (i : Nat) : (rfsV l).drop (i * 2) = rfsV (l.drop i) := by
  have h : rfsV l = rfsV (l.take i) ++ rfsV (l.drop i) := by rw [← rfsV_append, List.take_append_drop]
  by_cases hi : i ≤ l.length
  · conv => lhs; rw [h]
    rw [List.drop_append_of_le_length (by rw [rfsV_len, List.length_take]; omega), List.drop_of_length_le (by rw [rfsV_len, List.length_take]; omega)]
    rfl
  · rw [List.drop_of_length_le (by rw [rfsV_len]; omega), List.drop_of_length_le (by omega)]
    rfl
theorem rfsV_take (l : List Rf) (i : Nat) : (rfsV l).take (i * 2) = rfsV (l.take i) := by
  have h : rfsV l = rfsV (l.take i) ++ rfsV (l.drop i) := by rw [← rfsV_append, List.take_append_drop]
  by_cases hi : i ≤ l.length
  · conv => lhs; rw [h]
    rw [List.take_append_of_le_length (by rw [rfsV_len, List.length_take]; omega), List.take_of_length_le (by rw [rfsV_len, List.length_take]; omega)]
  · rw [List.take_of_length_le (by rw [rfsV_len]; omega), List.take_of_length_le (by omega)]
/-- Refs in memory. -/
def RRow (w : World) (v : Value) (l : List Rf) : Prop := VRow 2 w v l.length (rfsV l)
theorem infoRf : (Tryz.prog.info? 65).map (fun i => (i.zero, i.size, i.bytes)) = some (some (.agg #[.string ⟨#[]⟩, .string ⟨#[]⟩]), 2, 32) := by kernel_rfl
theorem infoRr : (Tryz.prog.info? 64).map (fun i => (i.zero, i.size, i.bytes)) = some (some (.agg #[.string ⟨#[]⟩, .string ⟨#[]⟩]), 2, 32) := by kernel_rfl
/-- The order of texts, byte by byte. -/
def lt (a b : ByteArray) : Prop := a.data.toList < b.data.toList
instance (a b : ByteArray) : Decidable (lt a b) := inferInstanceAs (Decidable (a.data.toList < b.data.toList))
theorem lt_irrefl (a : ByteArray) : ¬ lt a a := List.lt_irrefl _
theorem lt_trans {a b c : ByteArray} (h : lt a b) (k : lt b c) : lt a c := List.lt_trans h k
theorem lt_tri (a b : ByteArray) : lt a b ∨ a = b ∨ lt b a := by
  rcases Decidable.em (lt a b) with h | h
  · exact .inl h
  · rcases Decidable.em (lt b a) with k | k
    · exact .inr (.inr k)
    · exact .inr (.inl (bytes_ext (List.le_antisymm k h)))
/-- Where a name stands for something; no bytes, if it is not there. -/
def getR : List Rf → ByteArray → ByteArray
  | [], _ => ⟨#[]⟩
  | x :: r, nm => if x.nm = nm then x.id else getR r nm
/-- The place of a name. -/
def idxR (nm : ByteArray) : List Rf → Option Nat
  | [] => none
  | x :: r => if x.nm = nm then some 0 else (idxR nm r).map (· + 1)
theorem idx_get (nm : ByteArray) : ∀ l : List Rf, (idxR nm l = none ∧ getR l nm = ⟨#[]⟩) ∨ ∃ i x, idxR nm l = some i ∧ l[i]? = some x ∧ x.id = getR l nm ∧ x.nm = nm
  | [] => .inl ⟨rfl, rfl⟩
  | y :: r => by
    by_cases h : y.nm = nm
    · exact .inr ⟨0, y, by rw [idxR, if_pos h], rfl, by rw [getR, if_pos h], h⟩
    · rcases idx_get nm r with ⟨a, b⟩ | ⟨i, x, a, b, c, d⟩
      · exact .inl ⟨by rw [idxR, if_neg h, a]; rfl, by rw [getR, if_neg h, b]⟩
      · exact .inr ⟨i + 1, x, by rw [idxR, if_neg h, a]; rfl, by simpa using b, by rw [getR, if_neg h, c], d⟩
end Go.Proofs.YtknmmlfdlfioiaaGreatDoor.Rf
