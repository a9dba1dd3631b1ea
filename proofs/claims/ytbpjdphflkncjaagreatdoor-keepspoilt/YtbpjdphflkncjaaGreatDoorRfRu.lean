/- Refs: the same refs? The law's own function: walked. -/
import Derived.Test.YtbpjdphflkncjaaGreatDoorRfRt
import Derived.Laws.StructEq
import Derived.BigQuiet
namespace Go.Proofs.YtbpjdphflkncjaaGreatDoor.Rf
open Cb Go.RowKit
noncomputable instance : DecidableEq Rf := fun _ _ => Classical.propDecidable _
theorem rf_eq (x y : Rf) : ((x.nm.toList == y.nm.toList) && (x.id.toList == y.id.toList)) = decide (x = y) := by
  rw [tl_eq, tl_eq]
  obtain ⟨a, b⟩ := x
  obtain ⟨c, d⟩ := y
  by_cases h1 : a = c <;> by_cases h2 : b = d <;> simp [h1, h2]
theorem neqR (x y : Rf) (w : World) : (binOp BinOp.neq 65 (.agg #[.string x.nm, .string x.id]) (.agg #[.string y.nm, .string y.id])).run Tryz.prog w = .ok (.bool (!((x.nm.toList == y.nm.toList) && (x.id.toList == y.id.toList)))) w := by
  have hu : Tryz.prog.underlying 65 = some (.struct (Tryz.prog.fieldsOf 65)) := by kernel_rfl
  have hp : Tryz.prog.stoodInHeld 65 = false := by kernel_rfl
  have h9 : Tryz.prog.underlying 9 = some .string := by kernel_rfl
  have hm : (Tryz.prog.fieldsOf 65).toList.map (fun f => (f.name, f.type, f.offset)) = [("Name", 9, 0), ("ID", 9, 1)] := by kernel_rfl
  rw [run_neq_struct, run_equalIn_agg _ _ _ _ _ hu hp]
  generalize (Tryz.prog.fieldsOf 65).toList = fs at hm
  obtain ⟨f0, f1, rfl⟩ : ∃ f0 f1, fs = [f0, f1] := by
    have hl := congrArg List.length hm
    rw [List.length_map] at hl
    rcases fs with _ | ⟨a, _ | ⟨b, _ | ⟨c, r⟩⟩⟩
    · simp at hl
    · simp at hl
    · exact ⟨a, b, rfl⟩
    · simp at hl
  simp only [List.map_cons, List.map_nil, List.cons.injEq, Prod.mk.injEq, and_true] at hm
  obtain ⟨⟨n0, t0, o0⟩, n1, t1, o1⟩ := hm
  have s9 : ∀ w, (isAgg 9).run Tryz.prog w = .ok false w := Tryz.isAgg9
  have q : ∀ (a b : ByteArray) w, (Op.equalIn 9999 9 (.string a) (.string b)).run Tryz.prog w = .ok (a.toList == b.toList) w := fun a b w => run_equalIn_string w 9998 9 a b h9
  have p0 : ∀ (a b : ByteArray) w, (part 9 #[.string a, .string b] 0).run Tryz.prog w = .ok (.string a) w := fun a b w => by simp [part, s9]
  have p1 : ∀ (a b : ByteArray) w, (part 9 #[.string a, .string b] 1).run Tryz.prog w = .ok (.string b) w := fun a b w => by simp [part, s9]
  have e0 : f0.name ≠ "_" := by rw [n0]; decide
  have e1 : f1.name ≠ "_" := by rw [n1]; decide
  rw [Op.eqFields, if_pos e0, t0, o0]
  simp only [Sem.run_bind, p0, q, Result.andThen_ok]
  cases hx : (x.nm.toList == y.nm.toList)
  · simp
  · simp only [Bool.not_true, Bool.false_eq_true, if_false]
    rw [Op.eqFields, if_pos e1, t1, o1]
    simp only [Sem.run_bind, p1, q, Result.andThen_ok]
    cases hy : (x.id.toList == y.id.toList)
    · simp
    · simp [Op.eqFields]
end Go.Proofs.YtbpjdphflkncjaaGreatDoor.Rf
