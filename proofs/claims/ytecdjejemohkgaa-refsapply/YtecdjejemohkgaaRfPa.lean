/- Refs: updates, one behind the other: plain, and Apply's memory. -/
import Derived.Test.YtecdjejemohkgaaRfLa
import Derived.Test.YtecdjejemohkgaaRfRn
import Derived.Test.YtecdjejemohkgaaRfRw
import Derived.Test.YtecdjejemohkgaaRfRo
namespace Go.Proofs.Ytecdjejemohkgaa.Rf
open Cb Go.RowKit Go.Shelf
/-- Refs of which one stands elsewhere. -/
def setR (nm id : ByteArray) : List Rf → List Rf
  | [] => [⟨nm, id⟩]
  | x :: r => if x.nm = nm then ⟨nm, id⟩ :: r else if lt nm x.nm then ⟨nm, id⟩ :: x :: r else x :: setR nm id r
/-- Refs of which one is gone. -/
def delR (nm : ByteArray) : List Rf → List Rf
  | [] => []
  | x :: r => if x.nm = nm then r else x :: delR nm r
def movR (l : List Rf) (u : Up) : List Rf := if emp u.new = true then delR u.nm l else setR u.nm u.new l
/-- Updates of refs, one behind the other: the first reason why one may not be, or the refs. -/
def appR (f : ByteArray → ByteArray → Bool) (hd : ByteArray) : List Rf → List Up → List Up → Int × List Rf
  | m, _, [] => (0, m)
  | m, ah, u :: r => if upd hd m ah u f = 0 then appR f hd (movR m u) (ah ++ [u]) r else (upd hd m ah u f, m)
/-- What Apply answers. -/
def appP (f : ByteArray → ByteArray → Bool) (hd : ByteArray) (l : List Rf) (us : List Up) : Int × List Rf :=
  if 256 < us.length then (3, l) else if ¬ chkR hd l = 0 then (chkR hd l, l)
  else if ¬ (appR f hd l [] us).1 = 0 then ((appR f hd l [] us).1, l) else if 256 < (appR f hd l [] us).2.length then (3, l) else (0, (appR f hd l [] us).2)
/-- How a row may be moved by an update. -/
def MvC (l : List Rf) (u : Up) : Prop := ∀ (B : Nat) (v : Value) (w : World), w.ownsRow B 59 2 v l.length (rfsV l) → B ≤ w.heap.size → Calls Try.prog 26 #[v, upA u] w fun e w' => InsTo B w v (movR l u) e w'
theorem own_set_ne {w : World} {B n k : Nat} {t : TypeId} {v : Value} {xs : List Value} (h : w.ownsRow B t k v n xs) (p : Addr) (hp : v.ownBlock ≠ some p.block) (u : Value) : (w.setCell p u).ownsRow B t k v n xs := by
  refine ⟨h.1, ?_⟩
  rcases h.2 with h0 | ⟨g, cap, cur, e, h1, hg, r⟩
  · exact .inl h0
  · subst e
    refine .inr ⟨g, cap, cur, rfl, h1, ?_, r⟩
    rw [heap_setCell_other w p g u (fun e => hp (by simp [Value.ownBlock, e]))]
    exact hg
theorem own_grown {w w' : World} {B n k : Nat} {t : TypeId} {v : Value} {xs : List Value} {r : Option Nat} (h : w.ownsRow B t k v n xs) (hg : w.grownBy w' r) (hne : ∀ g, v.ownBlock = some g → r ≠ some g) : w'.ownsRow B t k v n xs := by
  refine ⟨h.1, ?_⟩
  rcases h.2 with h0 | ⟨g, cap, cur, e, h1, hh, q⟩
  · exact .inl h0
  · subst e
    exact .inr ⟨g, cap, cur, rfl, h1, (hg.block g (block_lt hh) (fun e => hne g rfl e.symm)).trans hh, q⟩
theorem own_type {w : World} {B n k g : Nat} {t : TypeId} {v : Value} {xs : List Value} (h : w.ownsRow B t k v n xs) (hv : v.ownBlock = some g) : ∃ cur, w.heap[g]? = some (.cells cur t (0, 0)) := by
  rcases h.2 with ⟨e, _⟩ | ⟨g', cap, cur, e, h1, hh, q⟩
  · subst e; simp [Value.ownBlock] at hv
  · subst e
    simp [Value.ownBlock] at hv
    subst hv
    exact ⟨cur, hh⟩
/-- What Apply's loop knows of the memory. -/
structure AM (w0 : World) (b8 b10 : Nat) (hd : ByteArray) (vw : Value) (l0 : List Rf) (va : Value) (us : List Up) (m : List Rf) (v : Value) (w : World) : Prop where
  bel : Below w0.heap.size w0 w
  l1 : w0.heap.size + 1 < b8
  l2 : b8 < b10
  l3 : b10 < w.heap.size
  res : w.heap[w0.heap.size + 1]? = some (.cells #[.string ⟨#[]⟩, .slice none 0 0] 24 (0, 0))
  was : w.heap[b8]? = some (.cells #[.string hd, vw] 24 (0, 0))
  wrow : w.ownsRow w0.heap.size 59 2 vw l0.length (rfsV l0)
  wlo : ∀ k, vw.ownBlock = some k → k < b8 ∧ w0.heap.size + 2 ≤ k
  now : w.heap[b10]? = some (.cells #[.string hd, v] 24 (0, 0))
  nrow : w.ownsRow (b8 + 1) 59 2 v m.length (rfsV m)
  arow : w.ownsRow (b8 + 1) 34 4 va us.length (upsV us)
theorem AM.below {w0 w w' : World} {b8 b10 : Nat} {hd : ByteArray} {vw : Value} {l0 : List Rf} {va : Value} {us : List Up} {m : List Rf} {v : Value} (h : AM w0 b8 b10 hd vw l0 va us m v w) (hb : Below w.heap.size w w') : AM w0 b8 b10 hd vw l0 va us m v w' :=
  have h1 := h.l1; have h2 := h.l2; have h3 := h.l3
  ⟨below_step h.bel (Nat.le_refl _) hb, h1, h2, Nat.lt_of_lt_of_le h3 hb.size, (hb.block _ (by omega)).trans h.res, (hb.block _ (by omega)).trans h.was, own_below h.wrow hb, h.wlo, (hb.block _ h3).trans h.now, own_below h.nrow hb, own_below h.arow hb⟩
theorem AM.move {w0 w w' : World} {b8 b10 : Nat} {hd : ByteArray} {vw : Value} {l0 : List Rf} {va : Value} {us : List Up} {m m' : List Rf} {v v' : Value} (h : AM w0 b8 b10 hd vw l0 va us m v w) (hg : w.grownBy w' v.ownBlock) (hr : w'.ownsRow (b8 + 1) 59 2 v' m'.length (rfsV m')) :
    (w'.cell? ⟨b10, 1, none⟩ = some v ∧ w'.frozen? ⟨b10, 1, none⟩ = false) ∧ AM w0 b8 b10 hd vw l0 va us m' v' (w'.setCell ⟨b10, 1, none⟩ v') := by
  have h1 := h.l1; have h2 := h.l2; have h3 := h.l3
  have hge := row_ge h.nrow
  have nb : ∀ k, v.ownBlock = some k → k ≠ b10 := fun k hk e => by
    obtain ⟨cur, hc⟩ := own_type h.nrow hk
    rw [e, h.now] at hc
    simp at hc
  have old : ∀ k, k < b8 + 1 → w'.heap[k]? = w.heap[k]? := fun k hk => hg.block k (by omega) (fun e => by have := hge _ e.symm; omega)
  have c10 : w'.heap[b10]? = some (.cells #[.string hd, v] 24 (0, 0)) := (hg.block b10 h3 (fun e => nb _ e.symm rfl)).trans h.now
  have nb2 : v'.ownBlock ≠ some b10 := fun e => by
    obtain ⟨cur, hc⟩ := own_type hr e
    rw [c10] at hc
    simp at hc
  have nba : va.ownBlock ≠ some b10 := fun e => by
    obtain ⟨cur, hc⟩ := own_type h.arow e
    rw [h.now] at hc
    simp at hc
  have nav : ∀ g, va.ownBlock = some g → v.ownBlock ≠ some g := fun g hg' e => by
    obtain ⟨cur, hc⟩ := own_type h.arow hg'
    obtain ⟨cur2, hc2⟩ := own_type h.nrow e
    rw [hc] at hc2
    simp at hc2
  have nw : ∀ g, vw.ownBlock = some g → v.ownBlock ≠ some g := fun g hg' e => by have := h.wlo g hg'; have := hge g e; omega
  refine ⟨⟨cellAt c10 rfl, frz c10 1⟩, ⟨?_, h1, h2, ?_, ?_, ?_, ?_, h.wlo, ?_, own_set_ne hr _ nb2 _, own_set_ne (own_grown h.arow hg nav) _ nba _⟩⟩
  · exact (Below.grown h.bel hg (by omega) (fun k hk => by have := hge k hk; omega)).setCell (by show w0.heap.size ≤ b10; omega) _
  · have := hg.size; simp [World.setCell] at *; omega
  · rw [heap_setCell_other w' ⟨b10, 1, none⟩ _ _ (by simp; omega)]; exact (old _ (by omega)).trans h.res
  · rw [heap_setCell_other w' ⟨b10, 1, none⟩ _ _ (by simp; omega)]; exact (old _ (by omega)).trans h.was
  · exact own_set_ne (own_grown h.wrow hg nw) _ (fun e => by have := h.wlo _ e; simp at this; omega) _
  · rw [heap_setCell_same w' b10 1 _ 24 _ c10]
    rfl
/-- Refs that a call hands back, and an error. -/
def AppTo (w : World) (hd : ByteArray) (a : Int × List Rf) (e : Ending) (w' : World) : Prop := ∃ v, e = .returned (.tuple #[.agg #[.string hd, v], .int .i64 a.1]) ∧ w'.ownsRow w.heap.size 59 2 v a.2.length (rfsV a.2) ∧ Below w.heap.size w w'
theorem put_res {w0 w : World} {v : Value} {l : List Rf} (hb : Below w0.heap.size w0 w) (hr : w.ownsRow w0.heap.size 59 2 v l.length (rfsV l)) (hne : ∀ k, v.ownBlock = some k → w0.heap.size + 2 ≤ k) (x y : Value) : Below w0.heap.size w0 ((w.setCell ⟨w0.heap.size + 1, 0, none⟩ x).setCell ⟨w0.heap.size + 1, 1, none⟩ y) ∧ ((w.setCell ⟨w0.heap.size + 1, 0, none⟩ x).setCell ⟨w0.heap.size + 1, 1, none⟩ y).ownsRow w0.heap.size 59 2 v l.length (rfsV l) :=
  ⟨(hb.setCell (p := ⟨w0.heap.size + 1, 0, none⟩) (by show w0.heap.size ≤ w0.heap.size + 1; omega) _).setCell (p := ⟨w0.heap.size + 1, 1, none⟩) (by show w0.heap.size ≤ w0.heap.size + 1; omega) _, own_set_ne (own_set_ne hr _ (fun e => by have := hne _ e; simp at this) _) _ (fun e => by have := hne _ e; simp at this) _⟩
end Go.Proofs.Ytecdjejemohkgaa.Rf
