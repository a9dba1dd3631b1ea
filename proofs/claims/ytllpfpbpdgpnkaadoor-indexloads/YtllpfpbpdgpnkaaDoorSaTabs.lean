/- The tables of the sums, walked: both come back whole, and nothing that lay in memory turns. -/
import Derived.Test.YtllpfpbpdgpnkaaDoorSaMix
namespace Go.Proofs.YtllpfpbpdgpnkaaDoor.Sa
open Go.RowKit
theorem init_lit : Sha.wordsA 8 Sha.init = #[.int .u32 1779033703, .int .u32 3144134277, .int .u32 1013904242, .int .u32 2773480762, .int .u32 1359893119, .int .u32 2600822924, .int .u32 528734635, .int .u32 1541459225] := by kernel_rfl
theorem wpList_build_as {P : Program} {ops : Array Oper} {rest : List Oper} {o : Oper} {a : Act} {w : World} {Q : Exit → Act → World → Prop} (hg : o.guard = none) (t : TypeId) (parts : Array (Nat × Operand)) (ho : o.op = .build t parts) (cells : Array Value)
    (hf : P.built t (parts.map fun (i, x) => (i, a.eval x)).toList = some cells)
    (h : wpList P ops Q rest (a.put o.dst (.agg cells)) w) : wpList P ops Q (o :: rest) a w :=
  wpList_build hg t parts ho (by rw [hf]; rfl) (by rw [hf]; exact h)
set_option maxHeartbeats 400000 in
set_option maxRecDepth 100000 in
theorem firsts_any (w : World) :
    Calls Tryd.prog 50 #[] w fun e w' => e = .returned (.agg (Sha.wordsA 8 Sha.init)) ∧ Below w.heap.size w w' := by
  go_enter Tryd.func50, Tryd.ntmps50
  go_wp2_with (first | (refine wpList_build_as rfl 62 _ rfl (Sha.wordsA 8 Sha.init) (by kernel_rfl) ?_) | (refine wpList_store_row rfl 62 _ _ rfl _ _ rfl rfl _ _ (alloc_at rfl) (info39 _) (by rw [Sha.wordsA_size]; rfl) (words_all _ _) ?_))
  refine bodyPost_ret (v := .agg (Sha.wordsA 8 Sha.init)) (results_cell_row Tryd.results50 _ _ w.heap.size 62 _ (0, 0) _ rfl (setRow_heap _ _ _ _ _ _ (alloc_at rfl)) Tryd.underlying62 rfl (info39 _)) rfl ⟨rfl, ?_⟩
  exact below_setRow ((Below.refl _ _).alloc (Nat.le_refl _) _) (Nat.le_refl _) _
set_option maxHeartbeats 400000 in
set_option maxRecDepth 100000 in
theorem salts_any (w : World) :
    Calls Tryd.prog 29 #[] w fun e w' => e = .returned (.agg (Sha.wordsA 64 Sha.salt)) ∧ Below w.heap.size w w' := by
  go_enter Tryd.func29, Tryd.ntmps29
  go_wp2_with (first | (refine wpList_build_as rfl 63 _ rfl (Sha.wordsA 64 Sha.salt) (by kernel_rfl) ?_) | (refine wpList_store_row rfl 63 _ _ rfl _ _ rfl rfl _ _ (alloc_at rfl) (info40 _) (by rw [Sha.wordsA_size]; rfl) (words_all _ _) ?_))
  refine bodyPost_ret (v := .agg (Sha.wordsA 64 Sha.salt)) (results_cell_row Tryd.results29 _ _ w.heap.size 63 _ (0, 0) _ rfl (setRow_heap _ _ _ _ _ _ (alloc_at rfl)) Tryd.underlying63 rfl (info40 _)) rfl ⟨rfl, ?_⟩
  exact below_setRow ((Below.refl _ _).alloc (Nat.le_refl _) _) (Nat.le_refl _) _
end Go.Proofs.YtllpfpbpdgpnkaaDoor.Sa
