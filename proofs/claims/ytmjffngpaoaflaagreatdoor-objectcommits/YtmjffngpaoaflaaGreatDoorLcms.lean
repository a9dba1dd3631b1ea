/- A commit as the laws cut it, walked: small facts. -/
import Derived.Test.YtmjffngpaoaflaaGreatDoorOk
import Derived.Test.YtmjffngpaoaflaaGreatDoorOo
import Derived.Deep.RegionWith
namespace Go.Proofs.YtmjffngpaoaflaaGreatDoor
namespace Ob
open Go.RowKit Go.Shelf
theorem flipC {P : Program} {f : Nat} {a : Array Value} {w : World} {v : Value} (h : Calls P f a w fun e w' => e = .returned v ∧ w' = w) : Calls P f a w fun e w' => e = .returned v ∧ w = w' := h.mono fun _ _ h => ⟨h.1, h.2.symm⟩
theorem CBox.set0 {w : World} {N : Nat} {T : TypeId} {c : Cm} (h : CBox w N T c) (s : ByteArray) : CBox (w.setCell ⟨N, 0, none⟩ (.string s)) N T { c with tr := s } := ⟨by simp [World.setCell, h.blk, Array.getElem?_modify]⟩
theorem results_cc {fn : Func} {p q : Tmp} {t1 t2 : TypeId} (h : fn.results = #[.cell p t1, .cell q t2]) (tmps : Array Value) (P : Program) (w : World) :
    (results fn tmps).run P w = ((asAddr (tmps.getD p undef)).run P w).andThen fun a w₁ => ((loadVar t1 a).run P w₁).andThen fun x w₂ => ((asAddr (tmps.getD q undef)).run P w₂).andThen fun b w₃ => ((loadVar t2 b).run P w₃).andThen fun y w₄ => .ok (.tuple #[x, y]) w₄ := by
  simp only [results, h]
  simp [Sem.run_bind, Result.andThen]
theorem put5k {w w1 : World} {N : Nat} (h : Below N w w1) (k : Nat) (hk : N ≤ k) (a b c d e : Value) : Below N w (((((w1.setCell ⟨k, 0, none⟩ a).setCell ⟨k, 1, none⟩ b).setCell ⟨k, 2, none⟩ c).setCell ⟨k, 3, none⟩ d).setCell ⟨k, 4, none⟩ e) :=
  ((((h.setCell (p := ⟨k, 0, none⟩) hk _).setCell (p := ⟨k, 1, none⟩) hk _).setCell (p := ⟨k, 2, none⟩) hk _).setCell (p := ⟨k, 3, none⟩) hk _).setCell (p := ⟨k, 4, none⟩) hk _
/-- What the law's Commit has in memory ahead of its return. -/
theorem lcm_world {w W : World} {v : Value} {tr au tx tr' au' tx' : ByteArray} {tm : Nat} (hb : CBox W w.heap.size 42 ⟨tr, v, [], au, tm, tx⟩) (h1 : CBox W (w.heap.size + 1) 42 cmZ) (h2 : CBox W (w.heap.size + 2) 43 cmZ) (hbl : Below w.heap.size w W) :
    ∃ W3, (((W.setCell ⟨w.heap.size, 4, none⟩ (.string tx')).setCell ⟨w.heap.size, 2, none⟩ (.string au')).setCell ⟨w.heap.size, 0, none⟩ (.string tr')).drew = W3 ∧ CBox W3 w.heap.size 42 ⟨tr', v, [], au', tm, tx'⟩ ∧ CBox W3 (w.heap.size + 1) 42 cmZ ∧ CBox W3 (w.heap.size + 2) 43 cmZ ∧ Below w.heap.size w W3 := by
  have hg : W.grownBy (((W.setCell ⟨w.heap.size, 4, none⟩ (.string tx')).setCell ⟨w.heap.size, 2, none⟩ (.string au')).setCell ⟨w.heap.size, 0, none⟩ (.string tr')) (some w.heap.size) := ((grown_set _ _ _ _).trans (grown_set _ _ _ _)).trans (grown_set _ _ _ _)
  have hd := (Below.refl (((W.setCell ⟨w.heap.size, 4, none⟩ (.string tx')).setCell ⟨w.heap.size, 2, none⟩ (.string au')).setCell ⟨w.heap.size, 0, none⟩ (.string tr')).heap.size (((W.setCell ⟨w.heap.size, 4, none⟩ (.string tx')).setCell ⟨w.heap.size, 2, none⟩ (.string au')).setCell ⟨w.heap.size, 0, none⟩ (.string tr'))).drew
  exact ⟨_, rfl, (((hb.set4 tx').set2 au').set0 tr').below hd, (h1.grown hg (by omega)).below hd, (h2.grown hg (by omega)).below hd, below2 (hbl.grown hg hbl.size (fun k hk => by simp at hk; omega)) hd⟩
end Ob
end Go.Proofs.YtmjffngpaoaflaaGreatDoor
