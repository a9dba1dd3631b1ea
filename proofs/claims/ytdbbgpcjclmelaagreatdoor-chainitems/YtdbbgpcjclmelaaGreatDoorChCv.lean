/- Rows of texts and of numbers as arguments, opened. -/
import Derived.Test.YtdbbgpcjclmelaaGreatDoorChCu
import Derived.ProofKit
import Derived.OpenShut
import Derived.Deep.Slices
import Derived.Deep.Fields
import Derived.Lib.SmallJoins
namespace Go.Proofs.YtdbbgpcjclmelaaGreatDoor.Ch
open Go.ChangeShapes Go.WideShapes Go.ChangeAt Go.WideMaps Go.WideElems Go.RowKit Go.Deep
set_option maxRecDepth 100000
theorem pcells9 : Tryz.prog.cellsOf 9 = 1 := by kernel_rfl
theorem pcells3 : Tryz.prog.cellsOf 3 = 1 := by kernel_rfl
theorem pcell_lt {w : World} {a : Addr} {v : Value} (h : w.cell? a = some v) : a.block < w.heap.size := by
  rcases Nat.lt_or_ge a.block w.heap.size with h' | h'
  · exact h'
  · have : w.heap[a.block]? = none := Array.getElem?_eq_none h'
    simp [World.cell?, this] at h
theorem pcell_none {w : World} {b o : Nat} {sp : Option Nat} {v : Value} (h : w.cell? ⟨b, o, sp⟩ = some v) : sp = none := by
  cases sp with
  | none => rfl
  | some k =>
    unfold World.cell? at h
    split at h <;> simp at h
theorem padd (b o i : Nat) : ((⟨b, o, none⟩ : Addr).add i) = ⟨b, o + i, none⟩ := by
  unfold Addr.add
  by_cases hi : i = 0 <;> simp [hi]
/-- A row of texts, opened. -/
theorem open_texts {H : Type} {enc : TypeId × Value → H} {W : World} {fuel : Nat} {v : Value} {y : DataW H × List MemPlace} (hf : DataW.trod enc Tryz.prog W 0 (fun _ => true) true fuel 22 [v] = some y) :
    ∃ l : List ByteArray, TRow W v l ∧ (∀ p ∈ y.2, p.block < W.heap.size) := by
  rcases open_slice Tryz.underlying22 hf with ⟨hcs, hx⟩ | ⟨a, len, cap, m, n, D, Pl, hcs, hb, hl, hm, hmm, hx, hel⟩
  · simp only [List.cons.injEq, and_true] at hcs
    subst hcs
    refine ⟨[], ⟨rfl, none, 0, rfl, Nat.le_refl _, ⟨Nat.zero_le _, fun _ => rfl⟩, fun h => by simp at h⟩, ?_⟩
    rw [hx]
    simp
  · simp only [List.cons.injEq, and_true] at hcs
    subst hcs
    simp only [if_true] at hmm
    subst hmm
    rw [pcells9] at hel hx
    obtain ⟨E, hE⟩ := choose_lt (α := ByteArray) (p := fun i x => W.cell? (a.add i) = some (.string x) ∧ Pl i = []) (n := m) (fun i hi => by
      obtain ⟨cs', h1, h2⟩ := hel i hi
      obtain ⟨z, rfl, hz, _⟩ := DataW.trod_string Tryz.underlying9 h2
      obtain ⟨_, _, hc⟩ := World.cells?_some h1
      have := hc 0 (by omega)
      simp only [Nat.mul_one] at this
      refine ⟨z, ?_, ?_⟩
      · simpa [Addr.add] using this
      · simpa using congrArg Prod.snd hz)
    have hlt : 0 < m → a.block < W.heap.size ∧ a.spot = none := by
      intro h0
      have h1 : W.cell? a = some (.string (E 0)) := by
        have := (hE 0 h0).1
        simpa [Addr.add] using this
      exact ⟨pcell_lt h1, by obtain ⟨b, o, sp⟩ := a; exact pcell_none h1⟩
    refine ⟨(List.range len).map E, ⟨by rw [strs_len, Nat.mul_one], some a, m, by simp, by simpa using hl, ⟨hm, fun h => by cases h⟩, fun h0 => ?_⟩, ?_⟩
    · have h0' : 0 < len := by simpa using h0
      obtain ⟨h1, h2⟩ := hlt (by omega)
      refine ⟨a.block, a.off, by rw [← h2], h1, fun i u hu => ?_⟩
      obtain ⟨x, hx, rfl⟩ : ∃ x, ((List.range len).map E)[i]? = some x ∧ Value.string x = u := by
        unfold strs at hu
        rw [List.getElem?_map, Option.map_eq_some_iff] at hu
        exact hu
      have hi : i < len := by have := (List.getElem?_eq_some_iff.1 hx).1; simpa using this
      have hxe : x = E i := by
        rw [List.getElem?_map, List.getElem?_range hi] at hx
        simpa using hx.symm
      subst hxe
      have e0 := (hE i (by omega)).1
      obtain ⟨b, o, sp⟩ := a
      simp only at h2
      subst h2
      rw [padd] at e0
      exact e0
    · intro p hp
      rw [hx] at hp
      rcases List.mem_append.1 hp with hp | hp
      · obtain ⟨k, hk, rfl⟩ := MemPlace.mem_row.1 hp
        exact (hlt (by omega)).1
      · obtain ⟨i, hi, hp⟩ := List.mem_flatMap.1 hp
        rw [(hE i (List.mem_range.1 hi)).2] at hp
        cases hp
/-- Texts as an argument, opened. -/
theorem open_texts_arg {H : Type} {enc : TypeId × Value → H} {W : World} {b0 : Nat} {r : Reach} {v : Value} {d : DataW H} {ps : List MemPlace} (hv : Value.okWide Tryz.prog W r b0 22 v) (h : DataW.Trod enc Tryz.prog W 0 (fun _ => true) true 22 v d ps) :
    ∃ l : List ByteArray, TRow W v l ∧ (∀ p ∈ ps, p.block < W.heap.size) := by
  obtain ⟨a0, len0, cap0, rfl⟩ := okWide_slice Tryz.underlying22 hv
  obtain ⟨fuel, hf⟩ := h
  have hf' : DataW.trod enc Tryz.prog W 0 (fun _ => true) true fuel 22 [.slice a0 len0 cap0] = some (d, ps) := hf
  exact open_texts hf'
/-- A row of numbers, opened. -/
theorem open_nums {H : Type} {enc : TypeId × Value → H} {W : World} {fuel : Nat} {v : Value} {y : DataW H × List MemPlace} (hf : DataW.trod enc Tryz.prog W 0 (fun _ => true) true fuel 23 [v] = some y) :
    ∃ l : List Int, NRow W v l ∧ (∀ p ∈ y.2, p.block < W.heap.size) := by
  rcases open_slice Tryz.underlying23 hf with ⟨hcs, hx⟩ | ⟨a, len, cap, m, n, D, Pl, hcs, hb, hl, hm, hmm, hx, hel⟩
  · simp only [List.cons.injEq, and_true] at hcs
    subst hcs
    refine ⟨[], ⟨rfl, none, 0, rfl, Nat.le_refl _, ⟨Nat.zero_le _, fun _ => rfl⟩, fun h => by simp at h⟩, ?_⟩
    rw [hx]
    simp
  · simp only [List.cons.injEq, and_true] at hcs
    subst hcs
    simp only [if_true] at hmm
    subst hmm
    rw [pcells3] at hel hx
    obtain ⟨E, hE⟩ := choose_lt (α := Int) (p := fun i x => W.cell? (a.add i) = some (.int .i64 x) ∧ Pl i = []) (n := m) (fun i hi => by
      obtain ⟨cs', h1, h2⟩ := hel i hi
      obtain ⟨z, rfl, hz, _⟩ := DataW.trod_int Tryz.underlying3 h2
      obtain ⟨_, _, hc⟩ := World.cells?_some h1
      have := hc 0 (by omega)
      simp only [Nat.mul_one] at this
      refine ⟨z, ?_, ?_⟩
      · simpa [Addr.add] using this
      · simpa using congrArg Prod.snd hz)
    have hlt : 0 < m → a.block < W.heap.size ∧ a.spot = none := by
      intro h0
      have h1 : W.cell? a = some (.int .i64 (E 0)) := by
        have := (hE 0 h0).1
        simpa [Addr.add] using this
      exact ⟨pcell_lt h1, by obtain ⟨b, o, sp⟩ := a; exact pcell_none h1⟩
    refine ⟨(List.range len).map E, ⟨by rw [nums_len, Nat.mul_one], some a, m, by simp, by simpa using hl, ⟨hm, fun h => by cases h⟩, fun h0 => ?_⟩, ?_⟩
    · have h0' : 0 < len := by simpa using h0
      obtain ⟨h1, h2⟩ := hlt (by omega)
      refine ⟨a.block, a.off, by rw [← h2], h1, fun i u hu => ?_⟩
      obtain ⟨x, hx, rfl⟩ : ∃ x, ((List.range len).map E)[i]? = some x ∧ Value.int .i64 x = u := by
        unfold nums at hu
        rw [List.getElem?_map, Option.map_eq_some_iff] at hu
        exact hu
      have hi : i < len := by have := (List.getElem?_eq_some_iff.1 hx).1; simpa using this
      have hxe : x = E i := by
        rw [List.getElem?_map, List.getElem?_range hi] at hx
        simpa using hx.symm
      subst hxe
      have e0 := (hE i (by omega)).1
      obtain ⟨b, o, sp⟩ := a
      simp only at h2
      subst h2
      rw [padd] at e0
      exact e0
    · intro p hp
      rw [hx] at hp
      rcases List.mem_append.1 hp with hp | hp
      · obtain ⟨k, hk, rfl⟩ := MemPlace.mem_row.1 hp
        exact (hlt (by omega)).1
      · obtain ⟨i, hi, hp⟩ := List.mem_flatMap.1 hp
        rw [(hE i (List.mem_range.1 hi)).2] at hp
        cases hp
/-- Numbers as an argument, opened. -/
theorem open_nums_arg {H : Type} {enc : TypeId × Value → H} {W : World} {b0 : Nat} {r : Reach} {v : Value} {d : DataW H} {ps : List MemPlace} (hv : Value.okWide Tryz.prog W r b0 23 v) (h : DataW.Trod enc Tryz.prog W 0 (fun _ => true) true 23 v d ps) :
    ∃ l : List Int, NRow W v l ∧ (∀ p ∈ ps, p.block < W.heap.size) := by
  obtain ⟨a0, len0, cap0, rfl⟩ := okWide_slice Tryz.underlying23 hv
  obtain ⟨fuel, hf⟩ := h
  have hf' : DataW.trod enc Tryz.prog W 0 (fun _ => true) true fuel 23 [.slice a0 len0 cap0] = some (d, ps) := hf
  exact open_nums hf'
theorem chainItems_law (v : Value) (l : List ByteArray) (v2 : Value) (bases : List Int) (w : World) (h : TRow w v l) (h2 : NRow w v2 bases) (hk : Ob.Ok w) : Calls Tryz.prog 3 #[v, v2] w fun e w' => e = .returned (.bool true) ∧ Below w.heap.size w w' :=
  items_law (fun w hk => awake_any w hk) v v2 l bases w h h2 hk
end Go.Proofs.YtdbbgpcjclmelaaGreatDoor.Ch
