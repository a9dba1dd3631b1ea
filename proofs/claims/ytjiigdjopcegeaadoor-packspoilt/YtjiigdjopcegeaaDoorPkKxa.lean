/- A constant's bytes, and the first text that is appended to them. -/
import Derived.Test.YtjiigdjopcegeaaDoorPkKx
import Derived.Lib.AppendStr
import Derived.Lib.SlBytesConst
namespace Go.Proofs.YtjiigdjopcegeaaDoor.Pk
open Cb Ld Go.RowKit Go.Shelf
theorem cell_of_row' {w : World} {g j : Nat} {cs : Array Value} {t : TypeId} {fr : Nat × Nat} (h : w.heap[g]? = some (.cells cs t fr)) : w.cell? ⟨g, j, none⟩ = cs[j]? := by
  simp [World.cell?, h]
/-- The first text that is appended to the constant's row: there is no room for it. -/
theorem run_append_title (w : World) (N g : Nat) (ty : TypeId) (hN : N ≤ w.heap.size) (hg : w.heap[g]? = some (.cells (rowA titleL) 5 (13, 14))) (s : ByteArray) (h0 : 0 < s.size) (h1 : s.size ≤ 10000) :
    ∃ v' w', (Builtin.append_ #[42, 9] ty #[.slice (some ⟨g, 0, none⟩) 13 13, .string s]).run Tryd.prog w = .ok v' w' ∧ w'.ownsRow N 5 1 v' (13 + s.size) (u8s titleL ++ Lib.strCells s) ∧ w.grownBy w' none := by
  obtain ⟨i, hi, hz, hs, hb⟩ := info_parts infoB
  have hl : (u8s titleL).length = 13 * i.size := by rw [hs]; rfl
  have holds : ∀ j u, (u8s titleL)[j]? = some u → w.cell? ((⟨g, 0, none⟩ : Addr).add j) = some u := by
    intro j u hu
    rw [Addr.add_lit, Nat.zero_add, cell_of_row' hg, rowA, List.getElem?_toArray]
    exact hu
  have hr := Lib.run_append_grow_string (P := Tryd.prog) w 42 9 ty 5 i (.int .u8 0) Tryd.underlying42 Tryd.underlying9 hi hz ⟨g, 0, none⟩ 13 13 (u8s titleL) hl holds s (by omega) (by omega) (growslice_fits (by omega) (by rw [hb]; omega))
  have hge := grownCap_ge w (13 + s.size) 13 5
  have hle := grownCap_le_maxLen w (13 + s.size) 13 5 (by unfold maxLen; omega)
  have hsl : (Lib.strCells s).length = s.size := Lib.strCells_length s
  have hul : (u8s titleL).length = 13 := rfl
  refine ⟨_, _, hr, ⟨by rw [List.length_append, hsl, hul]; omega, Or.inr ⟨w.heap.size, _, _, rfl, hN, heap_alloc_new w.drew _, hge, hle, ?_, ?_⟩⟩, ⟨rfl, rfl, rfl, by simp, fun k hk _ => Below.heap_alloc w.drew _ k hk⟩⟩
  · have hz1 : (Value.int IntKind.u8 0).cells.size = 1 := rfl
    simp only [Array.size_append, List.size_toArray, size_zeroCells, hz1, hsl, hul]
    omega
  · simp only [Array.toList_append, List.append_assoc]
    rw [← List.append_assoc, List.take_left' (by rw [List.length_append, hsl, hul]; omega)]
theorem wpList_append_title {w : World} {ops : Array Oper} {rest : List Oper} {o : Oper} {a : Act} {Q : Exit → Act → World → Prop} (hgd : o.guard = none) (s x : Operand)
    (ho : o.op = .call { callee := .builtin .append, args := #[s, x], argTypes := #[42, 9] }) (N g : Nat) (hN : N ≤ w.heap.size) (hg : w.heap[g]? = some (.cells (rowA titleL) 5 (13, 14)))
    (hs : a.eval s = .slice (some ⟨g, 0, none⟩) 13 13) (t : ByteArray) (hx : a.eval x = .string t) (h0 : 0 < t.size) (h1 : t.size ≤ 10000)
    (h : ∀ v' w', w'.ownsRow N 5 1 v' (13 + t.size) (u8s titleL ++ Lib.strCells t) → w.grownBy w' none → wpList Tryd.prog ops Q rest (a.put o.dst v') w') : wpList Tryd.prog ops Q (o :: rest) a w := by
  refine wpList_plain hgd fun K hK => ?_
  obtain ⟨v', w', hr, h2, h3⟩ := run_append_title w N g o.type hN hg t h0 h1
  unfold Oper.wp execOp
  simp only [ho, resolve, invoke, builtin, Sem.run_bind, Sem.run_pure, Result.andThen_ok, List.map_toArray, List.map_cons, List.map_nil, hs, hx, hr]
  exact hK _ _ (h v' w' h2 h3)
end Go.Proofs.YtjiigdjopcegeaaDoor.Pk
