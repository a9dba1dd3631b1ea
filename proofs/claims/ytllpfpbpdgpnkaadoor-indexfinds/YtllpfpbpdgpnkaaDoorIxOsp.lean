/- Spots as an argument, opened. -/
import Derived.Test.YtllpfpbpdgpnkaaDoorIxXm
import Derived.ProofKit
import Derived.OpenShut
import Derived.Deep.Slices
import Derived.Deep.Strs
namespace Go.Proofs.YtllpfpbpdgpnkaaDoor.Ix
open Cb Go.ChangeShapes Go.WideShapes Go.ChangeAt Go.WideMaps Go.WideElems Go.RowKit Go.Deep
set_option maxRecDepth 100000
theorem cellsE : Tryd.prog.cellsOf 38 = 2 := by kernel_rfl
theorem cells3 : Tryd.prog.cellsOf 3 = 1 := by kernel_rfl
theorem cells9 : Tryd.prog.cellsOf 9 = 1 := by kernel_rfl
theorem list2 {α : Type} {cs : List α} (h : cs.length = 2) : ∃ c0 c1, cs = [c0, c1] := by
  match cs, h with
  | [c0, c1], _ => exact ⟨c0, c1, rfl⟩
theorem open_spot {H : Type} {enc : TypeId × Value → H} {W : World} {base : Nat} {sp : Nat → Bool} {held : Bool} {fuel : Nat} {cs : List Value} {y : DataW H × List MemPlace} (h : DataW.trod enc Tryd.prog W base sp held fuel 38 cs = some y) :
    ∃ x : Sp, cs = [.string x.d, .int .i64 x.pl] ∧ x.d.size ≤ maxLen ∧ y.2 = [] := by
  obtain ⟨y0, y1, n, hx, hl, h0, h1⟩ := trod_struct2 Tryd.underlying38 h
  obtain ⟨c0, c1, rfl⟩ := list2 (hl.trans cellsE)
  simp [cells3, cells9] at h0 h1
  obtain ⟨z0, e0, x0, l0⟩ := DataW.trod_string Tryd.underlying9 h0
  obtain ⟨z1, e1, x1, _⟩ := DataW.trod_int Tryd.underlying3 h1
  simp only [List.cons.injEq, and_true] at e0 e1
  subst e0 e1
  refine ⟨⟨z0, z1⟩, rfl, l0, ?_⟩
  rw [hx, x0, x1]
  rfl
theorem add2 (b o i j : Nat) : ((⟨b, o, none⟩ : Addr).add i).add j = ⟨b, o + i + j, none⟩ := by
  unfold Addr.add
  by_cases hi : i = 0
  · by_cases hj : j = 0 <;> simp [hi, hj]
  · by_cases hj : j = 0 <;> simp [hi, hj]
theorem cell_lt {w : World} {a : Addr} {v : Value} (h : w.cell? a = some v) : a.block < w.heap.size := by
  rcases Nat.lt_or_ge a.block w.heap.size with h' | h'
  · exact h'
  · have : w.heap[a.block]? = none := Array.getElem?_eq_none h'
    simp [World.cell?, this] at h
theorem cell_none {w : World} {b o : Nat} {sp : Option Nat} {v : Value} (h : w.cell? ⟨b, o, sp⟩ = some v) : sp = none := by
  cases sp with
  | none => rfl
  | some k =>
    unfold World.cell? at h
    split at h <;> simp at h
theorem open_spots {H : Type} {enc : TypeId × Value → H} {W : World} {b0 : Nat} {r : Reach} {v : Value} {d : DataW H} {ps : List MemPlace} (hv : Value.okWide Tryd.prog W r b0 22 v) (h : DataW.Trod enc Tryd.prog W 0 (fun _ => true) true 22 v d ps) :
    ∃ l : List Sp, SRow W v l ∧ (∀ x ∈ l, x.d.size ≤ maxLen) ∧ (∀ p ∈ ps, p.block < W.heap.size) := by
  obtain ⟨a0, len0, cap0, rfl⟩ := okWide_slice Tryd.underlying22 hv
  obtain ⟨fuel, hf⟩ := h
  rcases open_slice Tryd.underlying22 hf with ⟨hcs, hx⟩ | ⟨a, len, cap, m, n, D, Pl, hcs, hb, hl, hm, hmm, hx, hel⟩
  · simp [Value.cells] at hcs
    obtain ⟨rfl, rfl, rfl⟩ := hcs
    refine ⟨[], ⟨none, 0, rfl, Nat.le_refl _, ⟨Nat.zero_le _, fun _ => rfl⟩, fun h => by simp at h⟩, by simp, ?_⟩
    have := congrArg Prod.snd hx
    simp at this
    subst this
    simp
  · simp [Value.cells] at hcs
    obtain ⟨rfl, rfl, rfl⟩ := hcs
    simp only [if_true] at hmm
    subst hmm
    rw [cellsE] at hel hx
    obtain ⟨E, hE⟩ := choose_lt (α := Sp) (p := fun i x => W.cell? ((a.add (i * 2)).add 0) = some (.string x.d) ∧ W.cell? ((a.add (i * 2)).add 1) = some (.int .i64 x.pl) ∧ (x.d.size ≤ maxLen) ∧ Pl i = []) (n := m) (fun i hi => by
      obtain ⟨cs', h1, h2⟩ := hel i hi
      obtain ⟨x, rfl, hs, hp⟩ := open_spot h2
      obtain ⟨_, _, hc⟩ := World.cells?_some h1
      exact ⟨x, (hc 0 (by omega)).trans rfl, (hc 1 (by omega)).trans rfl, hs, hp⟩)
    have hlt : 0 < m → a.block < W.heap.size ∧ a.spot = none := by
      intro h0
      have h1 : W.cell? a = some (.string (E 0).d) := by
        have := (hE 0 h0).1
        simpa [Addr.add] using this
      exact ⟨cell_lt h1, by obtain ⟨b, o, sp⟩ := a; exact cell_none h1⟩
    refine ⟨(List.range len0).map E, ⟨some a, m, by simp, by simpa using hl, ⟨hm, fun h => by cases h⟩, fun h0 => ?_⟩, ?_, ?_⟩
    · have h0' : 0 < len0 := by simpa using h0
      obtain ⟨h1, h2⟩ := hlt (by omega)
      refine ⟨a.block, a.off, by rw [← h2], h1, fun i x hx => ?_⟩
      have hi : i < len0 := by have := (List.getElem?_eq_some_iff.1 hx).1; simpa using this
      have hxe : x = E i := by
        rw [List.getElem?_map, List.getElem?_range hi] at hx
        simpa using hx.symm
      subst hxe
      obtain ⟨e0, e1, _⟩ := hE i (by omega)
      obtain ⟨b, o, sp⟩ := a
      simp only at h2
      subst h2
      rw [add2] at e0 e1
      exact ⟨e0, e1⟩
    · intro x hx
      obtain ⟨i, hi, rfl⟩ := List.mem_map.1 hx
      exact (hE i (by have := List.mem_range.1 hi; omega)).2.2.1
    · intro p hp
      have := congrArg Prod.snd hx
      simp only at this
      subst this
      rcases List.mem_append.1 hp with hp | hp
      · obtain ⟨k, hk, rfl⟩ := MemPlace.mem_row.1 hp
        exact (hlt (by omega)).1
      · obtain ⟨i, hi, hp⟩ := List.mem_flatMap.1 hp
        rw [(hE i (List.mem_range.1 hi)).2.2.2] at hp
        cases hp
end Go.Proofs.YtllpfpbpdgpnkaaDoor.Ix
