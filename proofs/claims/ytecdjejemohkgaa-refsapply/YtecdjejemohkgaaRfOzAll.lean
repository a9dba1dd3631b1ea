/- Refs as an argument, opened. Refs: updates and ways as arguments, opened. Refs as an argument, opened, with what their texts weigh. -/
import Derived.Test.YtecdjejemohkgaaRfRi
import Derived.ProofKit
import Derived.OpenShut
import Derived.Deep.Slices
import Derived.Deep.Strs
import Derived.Lib.SmallJoins
import Derived.Test.YtecdjejemohkgaaRfRj
import Derived.SizedLaws
namespace Go.Proofs.Ytecdjejemohkgaa.Rf
open Cb Go.ChangeShapes Go.WideShapes Go.ChangeAt Go.WideMaps Go.WideElems Go.RowKit Go.Deep
set_option maxRecDepth 100000
instance : Inhabited Rf := ⟨⟨⟨#[]⟩, ⟨#[]⟩⟩⟩
theorem cellsRf : Try.prog.cellsOf 59 = 2 := by kernel_rfl
theorem cellsRs : Try.prog.cellsOf 24 = 2 := by kernel_rfl
theorem cells9 : Try.prog.cellsOf 9 = 1 := by kernel_rfl
theorem list2 {α : Type} {cs : List α} (h : cs.length = 2) : ∃ c0 c1, cs = [c0, c1] := by
  match cs, h with
  | [c0, c1], _ => exact ⟨c0, c1, rfl⟩
theorem open_ref {H : Type} {enc : TypeId × Value → H} {W : World} {base : Nat} {sp : Nat → Bool} {held : Bool} {fuel : Nat} {cs : List Value} {y : DataW H × List MemPlace} (h : DataW.trod enc Try.prog W base sp held fuel 59 cs = some y) :
    ∃ x : Rf, cs = [.string x.nm, .string x.id] ∧ (x.nm.size ≤ maxLen ∧ x.id.size ≤ maxLen) ∧ y.2 = [] := by
  obtain ⟨y0, y1, n, hx, hl, h0, h1⟩ := trod_struct2 Try.underlying59 h
  obtain ⟨c0, c1, rfl⟩ := list2 (hl.trans cellsRf)
  simp [cells9] at h0 h1
  obtain ⟨z0, e0, x0, l0⟩ := DataW.trod_string Try.underlying9 h0
  obtain ⟨z1, e1, x1, l1⟩ := DataW.trod_string Try.underlying9 h1
  simp only [List.cons.injEq, and_true] at e0 e1
  subst e0 e1
  refine ⟨⟨z0, z1⟩, rfl, ⟨l0, l1⟩, ?_⟩
  rw [hx, x0, x1]
  rfl
theorem add2 (b o i j : Nat) : ((⟨b, o, none⟩ : Addr).add i).add j = ⟨b, o + i + j, none⟩ := by
  unfold Addr.add
  by_cases hi : i = 0
  · by_cases hj : j = 0 <;> simp [hi, hj]
  · by_cases hj : j = 0 <;> simp [hi, hj]
theorem cell_lt {w : World} {a : Addr} {v : Value} (h : w.cell? a = some v) : a.block < w.heap.size := by
  rcases Nat.lt_or_ge a.block w.heap.size with h' | h'
  · exact h'
  · have : w.heap[a.block]? = none := Array.getElem?_eq_none h'
    simp [World.cell?, this] at h
theorem cell_none {w : World} {b o : Nat} {sp : Option Nat} {v : Value} (h : w.cell? ⟨b, o, sp⟩ = some v) : sp = none := by
  cases sp with
  | none => rfl
  | some k =>
    unfold World.cell? at h
    split at h <;> simp at h
theorem vcells_of {w : World} {b o : Nat} {l : List Rf} (hb : b < w.heap.size) (h : ∀ (j : Nat) (x : Rf), l[j]? = some x → w.cell? ⟨b, o + j * 2, none⟩ = some (.string x.nm) ∧ w.cell? ⟨b, o + j * 2 + 1, none⟩ = some (.string x.id)) : VCells w b o (rfsV l) := by
  refine ⟨hb, fun i u hu => ?_⟩
  have hi : i < l.length * 2 := by
    have := (List.getElem?_eq_some_iff.1 hu).1
    rwa [rfsV_len] at this
  obtain ⟨x, hx⟩ : ∃ x, l[i / 2]? = some x := ⟨l[i / 2]'(by omega), by simp⟩
  obtain ⟨d0, d1⟩ := rfsV_at l _ x hx
  obtain ⟨c0, c1⟩ := h _ x hx
  rcases Nat.mod_two_eq_zero_or_one i with e | e
  · have e2 : i / 2 * 2 = i := by omega
    rw [e2] at d0 c0
    rw [d0] at hu
    rw [c0, hu]
  · have e2 : i / 2 * 2 + 1 = i := by omega
    rw [e2] at d1
    rw [d1] at hu
    rw [← hu, ← c1, Nat.add_assoc, e2]
theorem open_row {H : Type} {enc : TypeId × Value → H} {W : World} {fuel : Nat} {v : Value} {y : DataW H × List MemPlace} (hf : DataW.trod enc Try.prog W 0 (fun _ => true) true fuel 22 [v] = some y) :
    ∃ l : List Rf, RRow W v l ∧ (∀ (i : Nat) (x : Rf), l[i]? = some x → x.nm.size ≤ maxLen ∧ x.id.size ≤ maxLen) ∧ (∀ p ∈ y.2, p.block < W.heap.size) := by
  rcases open_slice Try.underlying22 hf with ⟨hcs, hx⟩ | ⟨a, len, cap, m, n, D, Pl, hcs, hb, hl, hm, hmm, hx, hel⟩
  · simp only [List.cons.injEq, and_true] at hcs
    subst hcs
    refine ⟨[], ⟨rfl, none, 0, rfl, Nat.le_refl _, ⟨Nat.zero_le _, fun _ => rfl⟩, fun h => by simp at h⟩, fun i x h => by simp at h, ?_⟩
    rw [hx]
    simp
  · simp only [List.cons.injEq, and_true] at hcs
    subst hcs
    simp only [if_true] at hmm
    subst hmm
    rw [cellsRf] at hel hx
    obtain ⟨E, hE⟩ := choose_lt (α := Rf) (p := fun i x => W.cell? ((a.add (i * 2)).add 0) = some (.string x.nm) ∧ W.cell? ((a.add (i * 2)).add 1) = some (.string x.id) ∧ (x.nm.size ≤ maxLen ∧ x.id.size ≤ maxLen) ∧ Pl i = []) (n := m) (fun i hi => by
      obtain ⟨cs', h1, h2⟩ := hel i hi
      obtain ⟨x, rfl, hs, hp⟩ := open_ref h2
      obtain ⟨_, _, hc⟩ := World.cells?_some h1
      exact ⟨x, (hc 0 (by omega)).trans rfl, (hc 1 (by omega)).trans rfl, hs, hp⟩)
    have hlt : 0 < m → a.block < W.heap.size ∧ a.spot = none := by
      intro h0
      have h1 : W.cell? a = some (.string (E 0).nm) := by
        have := (hE 0 h0).1
        simpa [Addr.add] using this
      exact ⟨cell_lt h1, by obtain ⟨b, o, sp⟩ := a; exact cell_none h1⟩
    have hln : ((List.range len).map E).length = len := by simp
    have hat : ∀ (i : Nat) (x : Rf), ((List.range len).map E)[i]? = some x → i < len ∧ x = E i := fun i x hx => by
      have hi : i < len := by have := (List.getElem?_eq_some_iff.1 hx).1; simpa using this
      rw [List.getElem?_map, List.getElem?_range hi] at hx
      exact ⟨hi, by simpa using hx.symm⟩
    refine ⟨(List.range len).map E, ⟨rfsV_len _, some a, m, by rw [hln], by simpa using hl, ⟨hm, fun h => by cases h⟩, fun h0 => ?_⟩, ?_, ?_⟩
    · rw [hln] at h0
      obtain ⟨h1, h2⟩ := hlt (by omega)
      refine ⟨a.block, a.off, by rw [← h2], vcells_of h1 fun i x hx => ?_⟩
      obtain ⟨hi, rfl⟩ := hat i x hx
      obtain ⟨e0, e1, _⟩ := hE i (by omega)
      obtain ⟨b, o, sp⟩ := a
      simp only at h2
      subst h2
      rw [add2] at e0 e1
      exact ⟨e0, e1⟩
    · intro i x hx
      obtain ⟨hi, rfl⟩ := hat i x hx
      exact (hE i (by omega)).2.2.1
    · intro p hp
      rw [hx] at hp
      rcases List.mem_append.1 hp with hp | hp
      · obtain ⟨k, hk, rfl⟩ := MemPlace.mem_row.1 hp
        exact (hlt (by omega)).1
      · obtain ⟨i, hi, hp⟩ := List.mem_flatMap.1 hp
        rw [(hE i (List.mem_range.1 hi)).2.2.2] at hp
        cases hp
/-- Refs, opened. -/
theorem open_refs {H : Type} {enc : TypeId × Value → H} {W : World} {b0 : Nat} {r : Reach} {v : Value} {d : DataW H} {ps : List MemPlace} (hv : Value.okWide Try.prog W r b0 24 v) (h : DataW.Trod enc Try.prog W 0 (fun _ => true) true 24 v d ps) :
    ∃ hd v0 l, v = .agg #[.string hd, v0] ∧ RRow W v0 l ∧ hd.size ≤ maxLen ∧ (∀ (i : Nat) (x : Rf), l[i]? = some x → x.nm.size ≤ maxLen ∧ x.id.size ≤ maxLen) ∧ (∀ p ∈ ps, p.block < W.heap.size) := by
  obtain ⟨v0, v1, y0, y1, n, rfl, rfl, rfl, h0, h1⟩ := Joins.open_agg2 Try.underlying24 (by kernel_rfl) cellsRs hv h
  obtain ⟨s0, e0, x0, u0⟩ := DataW.trod_string Try.underlying9 h0
  obtain ⟨l, hr, hz, hp⟩ := open_row h1
  simp only [List.cons.injEq, and_true] at e0
  subst e0 x0
  refine ⟨s0, v1, l, rfl, hr, u0, hz, fun p hp' => ?_⟩
  rcases List.mem_append.1 hp' with hp' | hp'
  · cases hp'
  · exact hp p hp'
end Go.Proofs.Ytecdjejemohkgaa.Rf
namespace Go.Proofs.Ytecdjejemohkgaa.Rf
open Cb Go.ChangeShapes Go.WideShapes Go.ChangeAt Go.WideMaps Go.WideElems Go.RowKit Go.Deep
set_option maxRecDepth 100000
instance : Inhabited Up := ⟨⟨⟨#[]⟩, ⟨#[]⟩, ⟨#[]⟩, false⟩⟩
theorem cellsUp : Try.prog.cellsOf 34 = 4 := by kernel_rfl
theorem cellsWy : Try.prog.cellsOf 37 = 2 := by kernel_rfl
theorem cells4 : Try.prog.cellsOf 4 = 1 := by kernel_rfl
theorem list4 {α : Type} {cs : List α} (h : cs.length = 4) : ∃ c0 c1 c2 c3, cs = [c0, c1, c2, c3] := by
  match cs, h with
  | [c0, c1, c2, c3], _ => exact ⟨c0, c1, c2, c3, rfl⟩
theorem open_up {H : Type} {enc : TypeId × Value → H} {W : World} {base : Nat} {sp : Nat → Bool} {held : Bool} {fuel : Nat} {cs : List Value} {y : DataW H × List MemPlace} (h : DataW.trod enc Try.prog W base sp held fuel 34 cs = some y) :
    ∃ x : Up, cs = [.string x.nm, .string x.old, .string x.new, .bool x.force] ∧ (x.nm.size ≤ maxLen ∧ x.old.size ≤ maxLen ∧ x.new.size ≤ maxLen) ∧ y.2 = [] := by
  obtain ⟨y0, y1, y2, y3, n, hx, hl, h0, h1, h2, h3⟩ := Go.Joins.trod_struct4 Try.underlying34 h
  obtain ⟨c0, c1, c2, c3, rfl⟩ := list4 (hl.trans cellsUp)
  simp [cells9, cells4] at h0 h1 h2 h3
  obtain ⟨z0, e0, x0, l0⟩ := DataW.trod_string Try.underlying9 h0
  obtain ⟨z1, e1, x1, l1⟩ := DataW.trod_string Try.underlying9 h1
  obtain ⟨z2, e2, x2, l2⟩ := DataW.trod_string Try.underlying9 h2
  obtain ⟨z3, e3, x3⟩ := DataW.trod_bool Try.underlying4 h3
  simp only [List.cons.injEq, and_true] at e0 e1 e2 e3
  subst e0 e1 e2 e3
  refine ⟨⟨z0, z1, z2, z3⟩, rfl, ⟨l0, l1, l2⟩, ?_⟩
  rw [hx, x0, x1, x2, x3]
  rfl
theorem open_way {H : Type} {enc : TypeId × Value → H} {W : World} {base : Nat} {sp : Nat → Bool} {held : Bool} {fuel : Nat} {cs : List Value} {y : DataW H × List MemPlace} (h : DataW.trod enc Try.prog W base sp held fuel 37 cs = some y) :
    ∃ x : Rf, cs = [.string x.nm, .string x.id] ∧ (x.nm.size ≤ maxLen ∧ x.id.size ≤ maxLen) ∧ y.2 = [] := by
  obtain ⟨xs, m, _, hx, hl, hn, hel⟩ := DataW.trod_array Try.underlying37 h
  obtain ⟨c0, c1, rfl⟩ := list2 (hl.trans cellsWy)
  match xs, hn with
  | [y0, y1], _ =>
    have h0 := hel 0 (by omega)
    have h1 := hel 1 (by omega)
    simp [cells9] at h0 h1
    obtain ⟨z0, e0, x0, l0⟩ := DataW.trod_string Try.underlying9 h0
    obtain ⟨z1, e1, x1, l1⟩ := DataW.trod_string Try.underlying9 h1
    simp only [List.cons.injEq, and_true] at e0 e1
    subst e0 e1
    refine ⟨⟨z0, z1⟩, rfl, ⟨l0, l1⟩, ?_⟩
    rw [hx, x0, x1]
    rfl
theorem vcells_of4 {w : World} {b o : Nat} {l : List Up} (hb : b < w.heap.size) (h : ∀ (j : Nat) (x : Up), l[j]? = some x → w.cell? ⟨b, o + j * 4, none⟩ = some (.string x.nm) ∧ w.cell? ⟨b, o + j * 4 + 1, none⟩ = some (.string x.old) ∧ w.cell? ⟨b, o + j * 4 + 2, none⟩ = some (.string x.new) ∧ w.cell? ⟨b, o + j * 4 + 3, none⟩ = some (.bool x.force)) : VCells w b o (upsV l) := by
  refine ⟨hb, fun i u hu => ?_⟩
  have hi : i < l.length * 4 := by
    have := (List.getElem?_eq_some_iff.1 hu).1
    rwa [upsV_len] at this
  obtain ⟨x, hx⟩ : ∃ x, l[i / 4]? = some x := ⟨l[i / 4]'(by omega), by simp⟩
  have d := upsV_at l _ x hx
  obtain ⟨c0, c1, c2, c3⟩ := h _ x hx
  have hm : i % 4 = 0 ∨ i % 4 = 1 ∨ i % 4 = 2 ∨ i % 4 = 3 := by omega
  rcases hm with e | e | e | e
  · have e2 : i / 4 * 4 + 0 = i := by omega
    have := d 0 (.string x.nm) rfl
    rw [e2, hu] at this
    rw [this, ← c0, ← e2]
    simp
  · have e2 : i / 4 * 4 + 1 = i := by omega
    have := d 1 (.string x.old) rfl
    rw [e2, hu] at this
    rw [this, ← c1, Nat.add_assoc, e2]
  · have e2 : i / 4 * 4 + 2 = i := by omega
    have := d 2 (.string x.new) rfl
    rw [e2, hu] at this
    rw [this, ← c2, Nat.add_assoc, e2]
  · have e2 : i / 4 * 4 + 3 = i := by omega
    have := d 3 (.bool x.force) rfl
    rw [e2, hu] at this
    rw [this, ← c3, Nat.add_assoc, e2]
theorem open_ups {H : Type} {enc : TypeId × Value → H} {W : World} {fuel : Nat} {v : Value} {y : DataW H × List MemPlace} (hf : DataW.trod enc Try.prog W 0 (fun _ => true) true fuel 25 [v] = some y) :
    ∃ l : List Up, URow W v l ∧ (∀ (i : Nat) (x : Up), l[i]? = some x → x.nm.size ≤ maxLen ∧ x.old.size ≤ maxLen ∧ x.new.size ≤ maxLen) ∧ (∀ p ∈ y.2, p.block < W.heap.size) := by
  rcases open_slice Try.underlying25 hf with ⟨hcs, hx⟩ | ⟨a, len, cap, m, n, D, Pl, hcs, hb, hl, hm, hmm, hx, hel⟩
  · simp only [List.cons.injEq, and_true] at hcs
    subst hcs
    refine ⟨[], ⟨rfl, none, 0, rfl, Nat.le_refl _, ⟨Nat.zero_le _, fun _ => rfl⟩, fun h => by simp at h⟩, fun i x h => by simp at h, ?_⟩
    rw [hx]
    simp
  · simp only [List.cons.injEq, and_true] at hcs
    subst hcs
    simp only [if_true] at hmm
    subst hmm
    rw [cellsUp] at hel hx
    obtain ⟨E, hE⟩ := choose_lt (α := Up) (p := fun i x => W.cell? ((a.add (i * 4)).add 0) = some (.string x.nm) ∧ W.cell? ((a.add (i * 4)).add 1) = some (.string x.old) ∧ W.cell? ((a.add (i * 4)).add 2) = some (.string x.new) ∧ W.cell? ((a.add (i * 4)).add 3) = some (.bool x.force) ∧ (x.nm.size ≤ maxLen ∧ x.old.size ≤ maxLen ∧ x.new.size ≤ maxLen) ∧ Pl i = []) (n := m) (fun i hi => by
      obtain ⟨cs', h1, h2⟩ := hel i hi
      obtain ⟨x, rfl, hs, hp⟩ := open_up h2
      obtain ⟨_, _, hc⟩ := World.cells?_some h1
      exact ⟨x, (hc 0 (by omega)).trans rfl, (hc 1 (by omega)).trans rfl, (hc 2 (by omega)).trans rfl, (hc 3 (by omega)).trans rfl, hs, hp⟩)
    have hlt : 0 < m → a.block < W.heap.size ∧ a.spot = none := by
      intro h0
      have h1 : W.cell? a = some (.string (E 0).nm) := by
        have := (hE 0 h0).1
        simpa [Addr.add] using this
      exact ⟨cell_lt h1, by obtain ⟨b, o, sp⟩ := a; exact cell_none h1⟩
    have hln : ((List.range len).map E).length = len := by simp
    have hat : ∀ (i : Nat) (x : Up), ((List.range len).map E)[i]? = some x → i < len ∧ x = E i := fun i x hx => by
      have hi : i < len := by have := (List.getElem?_eq_some_iff.1 hx).1; simpa using this
      rw [List.getElem?_map, List.getElem?_range hi] at hx
      exact ⟨hi, by simpa using hx.symm⟩
    refine ⟨(List.range len).map E, ⟨upsV_len _, some a, m, by rw [hln], by simpa using hl, ⟨hm, fun h => by cases h⟩, fun h0 => ?_⟩, ?_, ?_⟩
    · rw [hln] at h0
      obtain ⟨h1, h2⟩ := hlt (by omega)
      refine ⟨a.block, a.off, by rw [← h2], vcells_of4 h1 fun i x hx => ?_⟩
      obtain ⟨hi, rfl⟩ := hat i x hx
      obtain ⟨e0, e1, e2, e3, _⟩ := hE i (by omega)
      obtain ⟨b, o, sp⟩ := a
      simp only at h2
      subst h2
      rw [add2] at e0 e1 e2 e3
      exact ⟨e0, e1, e2, e3⟩
    · intro i x hx
      obtain ⟨hi, rfl⟩ := hat i x hx
      exact (hE i (by omega)).2.2.2.2.1
    · intro p hp
      rw [hx] at hp
      rcases List.mem_append.1 hp with hp | hp
      · obtain ⟨k, hk, rfl⟩ := MemPlace.mem_row.1 hp
        exact (hlt (by omega)).1
      · obtain ⟨i, hi, hp⟩ := List.mem_flatMap.1 hp
        rw [(hE i (List.mem_range.1 hi)).2.2.2.2.2] at hp
        cases hp
theorem open_ways {H : Type} {enc : TypeId × Value → H} {W : World} {fuel : Nat} {v : Value} {y : DataW H × List MemPlace} (hf : DataW.trod enc Try.prog W 0 (fun _ => true) true fuel 26 [v] = some y) :
    ∃ l : List Rf, RRow W v l ∧ (∀ (i : Nat) (x : Rf), l[i]? = some x → x.nm.size ≤ maxLen ∧ x.id.size ≤ maxLen) ∧ (∀ p ∈ y.2, p.block < W.heap.size) := by
  rcases open_slice Try.underlying26 hf with ⟨hcs, hx⟩ | ⟨a, len, cap, m, n, D, Pl, hcs, hb, hl, hm, hmm, hx, hel⟩
  · simp only [List.cons.injEq, and_true] at hcs
    subst hcs
    refine ⟨[], ⟨rfl, none, 0, rfl, Nat.le_refl _, ⟨Nat.zero_le _, fun _ => rfl⟩, fun h => by simp at h⟩, fun i x h => by simp at h, ?_⟩
    rw [hx]
    simp
  · simp only [List.cons.injEq, and_true] at hcs
    subst hcs
    simp only [if_true] at hmm
    subst hmm
    rw [cellsWy] at hel hx
    obtain ⟨E, hE⟩ := choose_lt (α := Rf) (p := fun i x => W.cell? ((a.add (i * 2)).add 0) = some (.string x.nm) ∧ W.cell? ((a.add (i * 2)).add 1) = some (.string x.id) ∧ (x.nm.size ≤ maxLen ∧ x.id.size ≤ maxLen) ∧ Pl i = []) (n := m) (fun i hi => by
      obtain ⟨cs', h1, h2⟩ := hel i hi
      obtain ⟨x, rfl, hs, hp⟩ := open_way h2
      obtain ⟨_, _, hc⟩ := World.cells?_some h1
      exact ⟨x, (hc 0 (by omega)).trans rfl, (hc 1 (by omega)).trans rfl, hs, hp⟩)
    have hlt : 0 < m → a.block < W.heap.size ∧ a.spot = none := by
      intro h0
      have h1 : W.cell? a = some (.string (E 0).nm) := by
        have := (hE 0 h0).1
        simpa [Addr.add] using this
      exact ⟨cell_lt h1, by obtain ⟨b, o, sp⟩ := a; exact cell_none h1⟩
    have hln : ((List.range len).map E).length = len := by simp
    have hat : ∀ (i : Nat) (x : Rf), ((List.range len).map E)[i]? = some x → i < len ∧ x = E i := fun i x hx => by
      have hi : i < len := by have := (List.getElem?_eq_some_iff.1 hx).1; simpa using this
      rw [List.getElem?_map, List.getElem?_range hi] at hx
      exact ⟨hi, by simpa using hx.symm⟩
    refine ⟨(List.range len).map E, ⟨rfsV_len _, some a, m, by rw [hln], by simpa using hl, ⟨hm, fun h => by cases h⟩, fun h0 => ?_⟩, ?_, ?_⟩
    · rw [hln] at h0
      obtain ⟨h1, h2⟩ := hlt (by omega)
      refine ⟨a.block, a.off, by rw [← h2], vcells_of h1 fun i x hx => ?_⟩
      obtain ⟨hi, rfl⟩ := hat i x hx
      obtain ⟨e0, e1, _⟩ := hE i (by omega)
      obtain ⟨b, o, sp⟩ := a
      simp only at h2
      subst h2
      rw [add2] at e0 e1
      exact ⟨e0, e1⟩
    · intro i x hx
      obtain ⟨hi, rfl⟩ := hat i x hx
      exact (hE i (by omega)).2.2.1
    · intro p hp
      rw [hx] at hp
      rcases List.mem_append.1 hp with hp | hp
      · obtain ⟨k, hk, rfl⟩ := MemPlace.mem_row.1 hp
        exact (hlt (by omega)).1
      · obtain ⟨i, hi, hp⟩ := List.mem_flatMap.1 hp
        rw [(hE i (List.mem_range.1 hi)).2.2.2] at hp
        cases hp
theorem open_ups_arg {H : Type} {enc : TypeId × Value → H} {W : World} {b0 : Nat} {r : Reach} {v : Value} {d : DataW H} {ps : List MemPlace} (hv : Value.okWide Try.prog W r b0 25 v) (h : DataW.Trod enc Try.prog W 0 (fun _ => true) true 25 v d ps) :
    ∃ (fu : Nat) (l : List Up), fu = fu ∧ URow W v l ∧ (∀ (i : Nat) (x : Up), l[i]? = some x → x.nm.size ≤ maxLen ∧ x.old.size ≤ maxLen ∧ x.new.size ≤ maxLen) ∧ (∀ p ∈ ps, p.block < W.heap.size) := by
  obtain ⟨a0, len0, cap0, rfl⟩ := okWide_slice Try.underlying25 hv
  obtain ⟨fu, hf⟩ := h
  obtain ⟨l, hr, hz, hp⟩ := open_ups (y := (d, ps)) hf
  exact ⟨fu, l, rfl, hr, hz, hp⟩
theorem open_ways_arg {H : Type} {enc : TypeId × Value → H} {W : World} {b0 : Nat} {r : Reach} {v : Value} {d : DataW H} {ps : List MemPlace} (hv : Value.okWide Try.prog W r b0 26 v) (h : DataW.Trod enc Try.prog W 0 (fun _ => true) true 26 v d ps) :
    ∃ (fu : Nat) (l : List Rf), fu = fu ∧ RRow W v l ∧ (∀ p ∈ ps, p.block < W.heap.size) := by
  obtain ⟨a0, len0, cap0, rfl⟩ := okWide_slice Try.underlying26 hv
  obtain ⟨fu, hf⟩ := h
  obtain ⟨l, hr, hz, hp⟩ := open_ways (y := (d, ps)) hf
  exact ⟨fu, l, rfl, hr, hp⟩
end Go.Proofs.Ytecdjejemohkgaa.Rf
namespace Go.Proofs.Ytecdjejemohkgaa.Rf
open Cb Go.ChangeShapes Go.WideShapes Go.ChangeAt Go.WideMaps Go.WideElems Go.RowKit Go.Deep
set_option maxRecDepth 100000
theorem weights_mem_all {H : Type} {P : Program} {e : TypeId} : ∀ {ds : List (DataW H)} {d : DataW H}, d ∈ ds → ∀ n ∈ d.weights P e, n ∈ DataW.weightsAll P e ds
  | d0 :: ds, d, h, n, hn => by
    simp only [DataW.weightsAll, List.mem_append]
    rcases List.mem_cons.1 h with rfl | h
    · exact Or.inl hn
    · exact Or.inr (weights_mem_all h n hn)
theorem open_ref2 {H : Type} {enc : TypeId × Value → H} {W : World} {base : Nat} {sp : Nat → Bool} {held : Bool} {fuel : Nat} {cs : List Value} {y : DataW H × List MemPlace} (h : DataW.trod enc Try.prog W base sp held fuel 59 cs = some y) :
    ∃ x : Rf, cs = [.string x.nm, .string x.id] ∧ (x.nm.size ≤ maxLen ∧ x.id.size ≤ maxLen) ∧ y.2 = [] ∧ y.1 = .agg [.lit (.string x.nm.data.toList), .lit (.string x.id.data.toList)] := by
  obtain ⟨y0, y1, n, hx, hl, h0, h1⟩ := trod_struct2 Try.underlying59 h
  obtain ⟨c0, c1, rfl⟩ := list2 (hl.trans cellsRf)
  simp [cells9] at h0 h1
  obtain ⟨z0, e0, x0, l0⟩ := DataW.trod_string Try.underlying9 h0
  obtain ⟨z1, e1, x1, l1⟩ := DataW.trod_string Try.underlying9 h1
  simp only [List.cons.injEq, and_true] at e0 e1
  subst e0 e1
  refine ⟨⟨z0, z1⟩, rfl, ⟨l0, l1⟩, ?_, ?_⟩ <;> (rw [hx, x0, x1]; try rfl)
theorem open_row2 {H : Type} {enc : TypeId × Value → H} {W : World} {fuel : Nat} {v : Value} {y : DataW H × List MemPlace} (hf : DataW.trod enc Try.prog W 0 (fun _ => true) true fuel 22 [v] = some y) :
    ∃ l : List Rf, RRow W v l ∧ (∀ (i : Nat) (x : Rf), l[i]? = some x → x.nm.size ≤ maxLen ∧ x.id.size ≤ maxLen) ∧ (∀ p ∈ y.2, p.block < W.heap.size) ∧ (∀ (i : Nat) (x : Rf), l[i]? = some x → x.nm.size ∈ y.1.weights Try.prog 22 ∧ x.id.size ∈ y.1.weights Try.prog 22) := by
  rcases open_slice Try.underlying22 hf with ⟨hcs, hx⟩ | ⟨a, len, cap, m, n, D, Pl, hcs, hb, hl, hm, hmm, hx, hel⟩
  · simp only [List.cons.injEq, and_true] at hcs
    subst hcs
    refine ⟨[], ⟨rfl, none, 0, rfl, Nat.le_refl _, ⟨Nat.zero_le _, fun _ => rfl⟩, fun h => by simp at h⟩, fun i x h => by simp at h, ?_, fun i x h => by simp at h⟩
    rw [hx]
    simp
  · simp only [List.cons.injEq, and_true] at hcs
    subst hcs
    simp only [if_true] at hmm
    subst hmm
    rw [cellsRf] at hel hx
    obtain ⟨E, hE⟩ := choose_lt (α := Rf) (p := fun i x => W.cell? ((a.add (i * 2)).add 0) = some (.string x.nm) ∧ W.cell? ((a.add (i * 2)).add 1) = some (.string x.id) ∧ (x.nm.size ≤ maxLen ∧ x.id.size ≤ maxLen) ∧ Pl i = [] ∧ D i = .agg [.lit (.string x.nm.data.toList), .lit (.string x.id.data.toList)]) (n := m) (fun i hi => by
      obtain ⟨cs', h1, h2⟩ := hel i hi
      obtain ⟨x, rfl, hs, hp, hd⟩ := open_ref2 h2
      obtain ⟨_, _, hc⟩ := World.cells?_some h1
      exact ⟨x, (hc 0 (by omega)).trans rfl, (hc 1 (by omega)).trans rfl, hs, hp, hd⟩)
    have hlt : 0 < m → a.block < W.heap.size ∧ a.spot = none := by
      intro h0
      have h1 : W.cell? a = some (.string (E 0).nm) := by
        have := (hE 0 h0).1
        simpa [Addr.add] using this
      exact ⟨cell_lt h1, by obtain ⟨b, o, sp⟩ := a; exact cell_none h1⟩
    have hln : ((List.range len).map E).length = len := by simp
    have hat : ∀ (i : Nat) (x : Rf), ((List.range len).map E)[i]? = some x → i < len ∧ x = E i := fun i x hx => by
      have hi : i < len := by have := (List.getElem?_eq_some_iff.1 hx).1; simpa using this
      rw [List.getElem?_map, List.getElem?_range hi] at hx
      exact ⟨hi, by simpa using hx.symm⟩
    refine ⟨(List.range len).map E, ⟨rfsV_len _, some a, m, by rw [hln], by simpa using hl, ⟨hm, fun h => by cases h⟩, fun h0 => ?_⟩, ?_, ?_, ?_⟩
    · rw [hln] at h0
      obtain ⟨h1, h2⟩ := hlt (by omega)
      refine ⟨a.block, a.off, by rw [← h2], vcells_of h1 fun i x hx => ?_⟩
      obtain ⟨hi, rfl⟩ := hat i x hx
      obtain ⟨e0, e1, _⟩ := hE i (by omega)
      obtain ⟨b, o, sp⟩ := a
      simp only at h2
      subst h2
      rw [add2] at e0 e1
      exact ⟨e0, e1⟩
    · intro i x hx
      obtain ⟨hi, rfl⟩ := hat i x hx
      exact (hE i (by omega)).2.2.1
    · intro p hp
      rw [hx] at hp
      rcases List.mem_append.1 hp with hp | hp
      · obtain ⟨k, hk, rfl⟩ := MemPlace.mem_row.1 hp
        exact (hlt (by omega)).1
      · obtain ⟨i, hi, hp⟩ := List.mem_flatMap.1 hp
        rw [(hE i (List.mem_range.1 hi)).2.2.2.1] at hp
        cases hp
    · intro i x hx'
      obtain ⟨hi, rfl⟩ := hat i x hx'
      have hD := (hE i (by omega)).2.2.2.2
      have hm : D i ∈ (List.range len).map D := List.mem_map.2 ⟨i, List.mem_range.2 hi, rfl⟩
      have hw : ∀ n ∈ (D i).weights Try.prog 59, n ∈ y.1.weights Try.prog 22 := fun n hn => by
        rw [hx]
        simp only [DataW.weights, Try.underlying22]
        exact List.mem_cons_of_mem _ (List.mem_append_left _ (weights_mem_all hm n hn))
      refine ⟨hw _ ?_, hw _ ?_⟩ <;> (rw [hD]; simp only [DataW.weights, Try.underlying59, List.map_cons, List.map_nil, DataW.weightsEach, List.mem_append, List.mem_singleton])
      · exact .inl rfl
      · exact .inr (.inl rfl)
/-- Refs, opened. -/
theorem open_refs2 {H : Type} {enc : TypeId × Value → H} {W : World} {b0 : Nat} {r : Reach} {v : Value} {d : DataW H} {ps : List MemPlace} (hv : Value.okWide Try.prog W r b0 24 v) (h : DataW.Trod enc Try.prog W 0 (fun _ => true) true 24 v d ps) :
    ∃ hd v0 l, v = .agg #[.string hd, v0] ∧ RRow W v0 l ∧ hd.size ≤ maxLen ∧ (∀ (i : Nat) (x : Rf), l[i]? = some x → x.nm.size ≤ maxLen ∧ x.id.size ≤ maxLen) ∧ (∀ p ∈ ps, p.block < W.heap.size) ∧ hd.size ∈ d.weights Try.prog 24 ∧ (∀ (i : Nat) (x : Rf), l[i]? = some x → x.nm.size ∈ d.weights Try.prog 24 ∧ x.id.size ∈ d.weights Try.prog 24) := by
  obtain ⟨v0, v1, y0, y1, n, rfl, rfl, rfl, h0, h1⟩ := Joins.open_agg2 Try.underlying24 (by kernel_rfl) cellsRs hv h
  obtain ⟨s0, e0, x0, u0⟩ := DataW.trod_string Try.underlying9 h0
  obtain ⟨l, hr, hz, hp, hwt⟩ := open_row2 h1
  simp only [List.cons.injEq, and_true] at e0
  subst e0 x0
  refine ⟨s0, v1, l, rfl, hr, u0, hz, fun p hp' => ?_, ?_, fun i x hx => ?_⟩
  · rcases List.mem_append.1 hp' with hp' | hp'
    · cases hp'
    · exact hp p hp'
  · simp only [DataW.weights, Try.underlying24, List.map_cons, List.map_nil, DataW.weightsEach, List.mem_append, List.mem_singleton]
    exact .inl rfl
  · obtain ⟨h1, h2⟩ := hwt i x hx
    simp only [DataW.weights, Try.underlying24, List.map_cons, List.map_nil, DataW.weightsEach, List.mem_append]
    exact ⟨.inr (.inl h1), .inr (.inl h2)⟩
end Go.Proofs.Ytecdjejemohkgaa.Rf
