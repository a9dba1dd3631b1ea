/- What is done, as an argument: a struct by value, opened. -/
import Derived.Test.YtefefgiooknpkaaGreatDoorProg
import Derived.ProofKit
import Derived.OpenShut
namespace Go.Proofs.YtefefgiooknpkaaGreatDoor
open Go.ChangeShapes Go.WideShapes Go.ChangeAt Go.WideMaps Go.WideElems Go.RowKit
set_option maxRecDepth 100000
theorem array8 {α : Type} {cs : Array α} (h : cs.size = 8) : ∃ c0 c1 c2 c3 c4 c5 c6 c7, cs = #[c0, c1, c2, c3, c4, c5, c6, c7] := by
  obtain ⟨l⟩ := cs
  match l, h with
  | [c0, c1, c2, c3, c4, c5, c6, c7], _ => exact ⟨c0, c1, c2, c3, c4, c5, c6, c7, rfl⟩
theorem cells40 : Tryz.prog.cellsOf 40 = 8 := by kernel_rfl
theorem cells38 : Tryz.prog.cellsOf 38 = 3 := by kernel_rfl
theorem cells3 : Tryz.prog.cellsOf 3 = 1 := by kernel_rfl
theorem cells9 : Tryz.prog.cellsOf 9 = 1 := by kernel_rfl
theorem cellsU : Tryz.prog.cellsOf 36 = 1 := by kernel_rfl
theorem open_act {H : Type} {enc : TypeId × Value → H} {W : World} {base b0 : Nat} {sp : Nat → Bool} {held : Bool} {r : Reach} {v : Value} {d : DataW H} {ps : List MemPlace} (hv : Value.okWide Tryz.prog W r b0 40 v) (h : DataW.Trod enc Tryz.prog W base sp held 40 v d ps) :
    ∃ (k : Int) (p t s : ByteArray) (n at' keep torn : Int), v = .agg #[.int .i64 k, .string p, .string t, .string s, .int .i64 n, .int .i64 at', .int .u64 keep, .int .i64 torn] ∧ s.size ≤ maxLen ∧ ps = [] := by
  obtain ⟨cs, rfl, hsz⟩ := okWide_struct Tryz.underlying40 hv
  obtain ⟨c0, c1, c2, c3, c4, c5, c6, c7, rfl⟩ := array8 (hsz.trans cells40)
  obtain ⟨fuel, hf⟩ := h
  obtain ⟨xs, n, _, hx, hl, hlen, hff⟩ := DataW.trod_struct Tryz.underlying40 hf
  match xs, hlen with
  | [y0, y1, y2, y3, y4, y5], _ =>
    have h0 := hff 0 _ rfl
    have h1 := hff 1 _ rfl
    have h2 := hff 2 _ rfl
    have h3 := hff 3 _ rfl
    have h4 := hff 4 _ rfl
    have h5 := hff 5 _ rfl
    simp [Value.cells, cells3, cells9, cells38] at h0 h1 h2 h3 h4 h5
    obtain ⟨z0, e0, x0, _⟩ := DataW.trod_int Tryz.underlying3 h0
    obtain ⟨z1, e1, x1, _⟩ := DataW.trod_string Tryz.underlying9 h1
    obtain ⟨z2, e2, x2, _⟩ := DataW.trod_string Tryz.underlying9 h2
    obtain ⟨z3, e3, x3, l3⟩ := DataW.trod_string Tryz.underlying9 h3
    obtain ⟨z4, e4, x4, _⟩ := DataW.trod_int Tryz.underlying3 h4
    obtain ⟨ys, m, _, hy, _, hylen, hgg⟩ := DataW.trod_struct Tryz.underlying38 h5
    match ys, hylen with
    | [y6, y7, y8], _ =>
      have g0 := hgg 0 _ rfl
      have g1 := hgg 1 _ rfl
      have g2 := hgg 2 _ rfl
      simp [cells3, cellsU] at g0 g1 g2
      obtain ⟨z5, e5, x5, _⟩ := DataW.trod_int Tryz.underlying3 g0
      obtain ⟨z6, e6, x6, _⟩ := DataW.trod_int Tryz.underlying36 g1
      obtain ⟨z7, e7, x7, _⟩ := DataW.trod_int Tryz.underlying3 g2
      simp only [List.cons.injEq, and_true] at e0 e1 e2 e3 e4 e5 e6 e7
      subst e0 e1 e2 e3 e4 e5 e6 e7
      refine ⟨z0, z1, z2, z3, z4, z5, z6, z7, rfl, l3, ?_⟩
      have hp := congrArg Prod.snd hx
      simp only at hp
      rw [hp]
      simp [x0, x1, x2, x3, x4, hy, x5, x6, x7]
end Go.Proofs.YtefefgiooknpkaaGreatDoor
