/- The tables of the sums, walked: both come back whole, and nothing that lay in memory turns. -/
import Derived.Test.YtjiigdjopcegeaaDoorSaMix
namespace Go.Proofs.YtjiigdjopcegeaaDoor.Sa
open Go.RowKit
theorem init_lit : Sha.wordsA 8 Sha.init = #[.int .u32 1779033703, .int .u32 3144134277, .int .u32 1013904242, .int .u32 2773480762, .int .u32 1359893119, .int .u32 2600822924, .int .u32 528734635, .int .u32 1541459225] := by kernel_rfl
theorem wpList_build_as {P : Program} {ops : Array Oper} {rest : List Oper} {o : Oper} {a : Act} {w : World} {Q : Exit → Act → World → Prop} (hg : o.guard = none) (t : TypeId) (parts : Array (Nat × Operand)) (ho : o.op = .build t parts) (cells : Array Value)
    (hf : P.built t (parts.map fun (i, x) => (i, a.eval x)).toList = some cells)
    (h : wpList P ops Q rest (a.put o.dst (.agg cells)) w) : wpList P ops Q (o :: rest) a w :=
  wpList_build hg t parts ho (by rw [hf]; rfl) (by rw [hf]; exact h)
set_option maxHeartbeats 400000 in
set_option maxRecDepth 100000 in
theorem firsts_any (w : World) :
    Calls Tryd.prog 48 #[] w fun e w' => e = .returned (.agg (Sha.wordsA 8 Sha.init)) ∧ Below w.heap.size w w' := by
  go_enter Tryd.func48, Tryd.ntmps48
  go_wp2_with (first | (refine wpList_build_as rfl 72 _ rfl (Sha.wordsA 8 Sha.init) (by kernel_rfl) ?_) | (refine wpList_store_row rfl 72 _ _ rfl _ _ rfl rfl _ _ (alloc_at rfl) (info39 _) (by rw [Sha.wordsA_size]; rfl) (words_all _ _) ?_))
  refine bodyPost_ret (v := .agg (Sha.wordsA 8 Sha.init)) (results_cell_row Tryd.results48 _ _ w.heap.size 72 _ (0, 0) _ rfl (setRow_heap _ _ _ _ _ _ (alloc_at rfl)) Tryd.underlying72 rfl (info39 _)) rfl ⟨rfl, ?_⟩
  exact below_setRow ((Below.refl _ _).alloc (Nat.le_refl _) _) (Nat.le_refl _) _
set_option maxHeartbeats 400000 in
set_option maxRecDepth 100000 in
theorem salts_any (w : World) :
    Calls Tryd.prog 40 #[] w fun e w' => e = .returned (.agg (Sha.wordsA 64 Sha.salt)) ∧ Below w.heap.size w w' := by
  go_enter Tryd.func40, Tryd.ntmps40
  go_wp2_with (first | (refine wpList_build_as rfl 73 _ rfl (Sha.wordsA 64 Sha.salt) (by kernel_rfl) ?_) | (refine wpList_store_row rfl 73 _ _ rfl _ _ rfl rfl _ _ (alloc_at rfl) (info40 _) (by rw [Sha.wordsA_size]; rfl) (words_all _ _) ?_))
  refine bodyPost_ret (v := .agg (Sha.wordsA 64 Sha.salt)) (results_cell_row Tryd.results40 _ _ w.heap.size 73 _ (0, 0) _ rfl (setRow_heap _ _ _ _ _ _ (alloc_at rfl)) Tryd.underlying73 rfl (info40 _)) rfl ⟨rfl, ?_⟩
  exact below_setRow ((Below.refl _ _).alloc (Nat.le_refl _) _) (Nat.le_refl _) _
end Go.Proofs.YtjiigdjopcegeaaDoor.Sa
