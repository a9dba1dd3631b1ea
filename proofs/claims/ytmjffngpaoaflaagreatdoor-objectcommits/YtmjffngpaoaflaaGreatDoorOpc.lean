/- A commit as an argument, opened. -/
import Derived.Test.YtmjffngpaoaflaaGreatDoorOd
import Derived.ProofKit
import Derived.OpenShut
import Derived.Deep.Slices
import Derived.Deep.Fields
import Derived.Lib.SmallJoins
namespace Go.Proofs.YtmjffngpaoaflaaGreatDoor
namespace Ob
open Go.ChangeShapes Go.WideShapes Go.ChangeAt Go.WideMaps Go.WideElems Go.RowKit Go.Deep
set_option maxRecDepth 100000
theorem pcells9 : Tryz.prog.cellsOf 9 = 1 := by kernel_rfl
theorem pcellsC : Tryz.prog.cellsOf 42 = 5 := by kernel_rfl
theorem array5 {α : Type} {cs : Array α} (h : cs.size = 5) : ∃ c0 c1 c2 c3 c4, cs = #[c0, c1, c2, c3, c4] := by
  obtain ⟨l⟩ := cs
  match l, h with
  | [c0, c1, c2, c3, c4], _ => exact ⟨c0, c1, c2, c3, c4, rfl⟩
theorem open_agg5 {H : Type} {enc : TypeId × Value → H} {P : Program} {w : World} {base : Nat} {spare : Nat → Bool} {held : Bool} {r : Reach} {b0 : Nat} {t : TypeId} {f0 f1 f2 f3 f4 : Field} {v : Value} {d : DataW H} {p : List MemPlace} (hs : P.underlying t = some (.struct #[f0, f1, f2, f3, f4])) (hone : Deep.oneCellFields P #[f0, f1, f2, f3, f4] = true) (hC : P.cellsOf t = 5)
    (hv : Value.okWide P w r b0 t v) (h : DataW.Trod enc P w base spare held t v d p) :
    ∃ (v0 v1 v2 v3 v4 : Value) (y0 y1 y2 y3 y4 : DataW H × List MemPlace) (n : Nat), v = .agg #[v0, v1, v2, v3, v4] ∧ p = y0.2 ++ (y1.2 ++ (y2.2 ++ (y3.2 ++ y4.2))) ∧
      DataW.trod enc P w base spare held n f0.type [v0] = some y0 ∧ DataW.trod enc P w base spare held n f1.type [v1] = some y1 ∧ DataW.trod enc P w base spare held n f2.type [v2] = some y2 ∧ DataW.trod enc P w base spare held n f3.type [v3] = some y3 ∧ DataW.trod enc P w base spare held n f4.type [v4] = some y4 := by
  obtain ⟨cs, rfl, hsz⟩ := okWide_struct hs hv
  obtain ⟨c0, c1, c2, c3, c4, rfl⟩ := array5 (hsz.trans hC)
  obtain ⟨fuel, hf⟩ := h
  obtain ⟨xs, n, _, hx, hl, hlen, hff⟩ := DataW.trod_struct hs hf
  match xs, hlen with
  | [y0, y1, y2, y3, y4], _ =>
    obtain ⟨o0, k0⟩ := Deep.hone_of hone 0 f0 rfl
    obtain ⟨o1, k1⟩ := Deep.hone_of hone 1 f1 rfl
    obtain ⟨o2, k2⟩ := Deep.hone_of hone 2 f2 rfl
    obtain ⟨o3, k3⟩ := Deep.hone_of hone 3 f3 rfl
    obtain ⟨o4, k4⟩ := Deep.hone_of hone 4 f4 rfl
    simp only [Prod.mk.injEq] at hx
    exact ⟨c0, c1, c2, c3, c4, y0, y1, y2, y3, y4, n, rfl, by simpa using hx.2, by simpa [Value.cells, o0, k0] using hff 0 f0 rfl, by simpa [Value.cells, o1, k1] using hff 1 f1 rfl, by simpa [Value.cells, o2, k2] using hff 2 f2 rfl, by simpa [Value.cells, o3, k3] using hff 3 f3 rfl, by simpa [Value.cells, o4, k4] using hff 4 f4 rfl⟩
theorem pcell_lt {w : World} {a : Addr} {v : Value} (h : w.cell? a = some v) : a.block < w.heap.size := by
  rcases Nat.lt_or_ge a.block w.heap.size with h' | h'
  · exact h'
  · have : w.heap[a.block]? = none := Array.getElem?_eq_none h'
    simp [World.cell?, this] at h
theorem pcell_none {w : World} {b o : Nat} {sp : Option Nat} {v : Value} (h : w.cell? ⟨b, o, sp⟩ = some v) : sp = none := by
  cases sp with
  | none => rfl
  | some k =>
    unfold World.cell? at h
    split at h <;> simp at h
theorem padd (b o i : Nat) : ((⟨b, o, none⟩ : Addr).add i) = ⟨b, o + i, none⟩ := by
  unfold Addr.add
  by_cases hi : i = 0 <;> simp [hi]
/-- A row of texts, opened. -/
theorem open_texts {H : Type} {enc : TypeId × Value → H} {W : World} {fuel : Nat} {v : Value} {y : DataW H × List MemPlace} (hf : DataW.trod enc Tryz.prog W 0 (fun _ => true) true fuel 39 [v] = some y) :
    ∃ l : List ByteArray, SRow W v l ∧ (∀ p ∈ y.2, p.block < W.heap.size) := by
  rcases open_slice Tryz.underlying39 hf with ⟨hcs, hx⟩ | ⟨a, len, cap, m, n, D, Pl, hcs, hb, hl, hm, hmm, hx, hel⟩
  · simp only [List.cons.injEq, and_true] at hcs
    subst hcs
    refine ⟨[], ⟨none, 0, rfl, Nat.le_refl _, ⟨Nat.zero_le _, fun _ => rfl⟩, fun h => by simp at h⟩, ?_⟩
    rw [hx]
    simp
  · simp only [List.cons.injEq, and_true] at hcs
    subst hcs
    simp only [if_true] at hmm
    subst hmm
    rw [pcells9] at hel hx
    obtain ⟨E, hE⟩ := choose_lt (α := ByteArray) (p := fun i x => W.cell? (a.add i) = some (.string x) ∧ Pl i = []) (n := m) (fun i hi => by
      obtain ⟨cs', h1, h2⟩ := hel i hi
      obtain ⟨z, rfl, hz, _⟩ := DataW.trod_string Tryz.underlying9 h2
      obtain ⟨_, _, hc⟩ := World.cells?_some h1
      have := hc 0 (by omega)
      simp only [Nat.mul_one] at this
      refine ⟨z, ?_, ?_⟩
      · simpa [Addr.add] using this
      · simpa using congrArg Prod.snd hz)
    have hlt : 0 < m → a.block < W.heap.size ∧ a.spot = none := by
      intro h0
      have h1 : W.cell? a = some (.string (E 0)) := by
        have := (hE 0 h0).1
        simpa [Addr.add] using this
      exact ⟨pcell_lt h1, by obtain ⟨b, o, sp⟩ := a; exact pcell_none h1⟩
    refine ⟨(List.range len).map E, ⟨some a, m, by simp, by simpa using hl, ⟨hm, fun h => by cases h⟩, fun h0 => ?_⟩, ?_⟩
    · have h0' : 0 < len := by simpa using h0
      obtain ⟨h1, h2⟩ := hlt (by omega)
      refine ⟨a.block, a.off, by rw [← h2], h1, fun i x hx => ?_⟩
      have hi : i < len := by have := (List.getElem?_eq_some_iff.1 hx).1; simpa using this
      have hxe : x = E i := by
        rw [List.getElem?_map, List.getElem?_range hi] at hx
        simpa using hx.symm
      subst hxe
      have e0 := (hE i (by omega)).1
      obtain ⟨b, o, sp⟩ := a
      simp only at h2
      subst h2
      rw [padd] at e0
      exact e0
    · intro p hp
      rw [hx] at hp
      rcases List.mem_append.1 hp with hp | hp
      · obtain ⟨k, hk, rfl⟩ := MemPlace.mem_row.1 hp
        exact (hlt (by omega)).1
      · obtain ⟨i, hi, hp⟩ := List.mem_flatMap.1 hp
        rw [(hE i (List.mem_range.1 hi)).2] at hp
        cases hp
/-- A commit, opened. -/
theorem open_commit {H : Type} {enc : TypeId × Value → H} {W : World} {b0 : Nat} {r : Reach} {v : Value} {d : DataW H} {ps : List MemPlace} (hv : Value.okWide Tryz.prog W r b0 42 v) (h : DataW.Trod enc Tryz.prog W 0 (fun _ => true) true 42 v d ps) :
    ∃ x : Cm, v = cmV x ∧ SRow W x.pv x.ps ∧ x.tr.size ≤ maxLen ∧ x.au.size ≤ maxLen ∧ x.tx.size ≤ maxLen ∧ x.tm < 18446744073709551616 ∧ (∀ p ∈ ps, p.block < W.heap.size) := by
  obtain ⟨v0, v1, v2, v3, v4, y0, y1, y2, y3, y4, n, rfl, rfl, h0, h1, h2, h3, h4⟩ := open_agg5 Tryz.underlying42 (by kernel_rfl) pcellsC hv h
  obtain ⟨s0, e0, x0, u0⟩ := DataW.trod_string Tryz.underlying9 h0
  obtain ⟨l, hr, hp⟩ := open_texts h1
  obtain ⟨s2, e2, x2, u2⟩ := DataW.trod_string Tryz.underlying9 h2
  obtain ⟨s3, e3, x3, u3⟩ := DataW.trod_int Tryz.underlying40 h3
  obtain ⟨s4, e4, x4, u4⟩ := DataW.trod_string Tryz.underlying9 h4
  simp only [List.cons.injEq, and_true] at e0 e2 e3 e4
  subst e0 e2 e3 e4 x0 x2 x3 x4
  have hw : 0 ≤ s3 ∧ s3 < 18446744073709551616 := by
    have hm : IntKind.u64.min = 0 := by decide
    have hM : IntKind.u64.max = 18446744073709551615 := by decide
    simp [Lit.wf] at u3
    omega
  refine ⟨⟨s0, v1, l, s2, s3.toNat, s4⟩, ?_, hr, u0, u2, u4, ?_, ?_⟩
  · unfold cmV
    simp only
    rw [Int.toNat_of_nonneg hw.1]
  · simp only
    omega
  · intro p hq
    simp only [List.nil_append, List.append_nil] at hq
    exact hp p hq
end Ob
end Go.Proofs.YtmjffngpaoaflaaGreatDoor
