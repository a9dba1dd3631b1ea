/- Refs: the law's own functions: refs that are not too many: walked. -/
import Derived.Test.YtecdjejemohkgaaRfRi
namespace Go.Proofs.Ytecdjejemohkgaa.Rf
open Cb Go.RowKit
/-- Refs that a call hands back: another row in what was there. -/
def CutTo (w : World) (hd : ByteArray) (l : List Rf) (e : Ending) (w' : World) : Prop := ∃ v, e = .returned (.agg #[.string hd, v]) ∧ RRow w' v l ∧ Below w.heap.size w w'
theorem RRow.take {w : World} {a : Option Addr} {n c : Nat} {l : List Rf} (h : RRow w (.slice a n c) l) (k : Nat) (hk : k ≤ l.length) : RRow w (.slice a k c) (l.take k) := by
  obtain ⟨h0, a', c', e, h1, h2, h3⟩ := h
  cases e
  have hl : (l.take k).length = k := by rw [List.length_take]; omega
  refine ⟨rfsV_len _, a, c, by rw [hl], by omega, h2, fun hp => ?_⟩
  obtain ⟨b, o, e, hc⟩ := h3 (by omega)
  refine ⟨b, o, e, hc.1, fun i u hu => hc.2 i u ?_⟩
  rw [← rfsV_take, List.getElem?_take] at hu
  split at hu
  · exact hu
  · cases hu
set_option maxHeartbeats 1600000 in
set_option maxRecDepth 100000 in
theorem cut_any (hd : ByteArray) (v : Value) (l : List Rf) (w : World) (h : RRow w v l) :
    Calls Try.prog 6 #[.agg #[.string hd, v]] w fun e w' => CutTo w hd (l.take 260) e w' := by
  have HT : Hid (∀ e w', CutTo w hd (l.take 260) e w' ↔ ∃ v, e = .returned (.agg #[.string hd, v]) ∧ RRow w' v (l.take 260) ∧ Below w.heap.size w w') := hideIt (fun _ _ => Iff.rfl)
  have HR := hideIt h
  obtain ⟨h0, a, c, rfl, h1, h2, h3⟩ := h
  obtain ⟨n, hn⟩ : ∃ n, l.length = n := ⟨_, rfl⟩
  have hnm : (n : Int) ≤ 9223372036854775807 := by have := h2.1; unfold maxLen at this; omega
  have hcm : (c : Int) ≤ 9223372036854775807 := by have := h2.1; unfold maxLen at this; omega
  rw [hn] at h1 HR ⊢
  by_cases hlt : 260 < n
  · have d1 : decide ((260 : Int) < (n : Int)) = true := decide_eq_true (by omega)
    have d2 : (260 : Int) < (n : Int) := by omega
    have d3 : (260 : Int) ≤ (c : Int) := by omega
    have d4 : 260 ≤ c := by omega
    have HF : Hid (RRow w (.slice a 260 c) (l.take 260)) := hideIt (HR.out.take 260 (by omega))
    clear h0 h3 hn
    go_enter Try.func6, Try.ntmps6
    go_wp2
    refine bodyPost_ret (v := .agg #[.string hd, .slice a 260 c]) (results_cell_row Try.results6 _ _ (w.heap.size + 1) 24 _ (0, 0) _ rfl (heap_alloc2_new w _ _) Try.underlying24 rfl infoRs) rfl ?_
    have hb : Below w.heap.size w ((w.alloc (.cells #[.string hd, .slice a 260 c] 24)).alloc (.cells #[.string hd, .slice a 260 c] 24)) := ((Below.refl _ w).alloc (Nat.le_refl _) _).alloc (by simp) _
    exact (HT.out _ _).2 ⟨_, rfl, HF.out.below hb, hb⟩
  · have d1 : decide ((260 : Int) < (n : Int)) = false := decide_eq_false (by omega)
    have HF : Hid (RRow w (.slice a n c) (l.take 260)) := hideIt (by rw [List.take_of_length_le (by omega)]; exact HR.out)
    clear h0 h3 hn
    go_enter Try.func6, Try.ntmps6
    go_wp2
    refine bodyPost_ret (v := .agg #[.string hd, .slice a n c]) (results_cell_row Try.results6 _ _ (w.heap.size + 1) 24 _ (0, 0) _ rfl (heap_alloc2_new w _ _) Try.underlying24 rfl infoRs) rfl ?_
    have hb : Below w.heap.size w ((w.alloc (.cells #[.string hd, .slice a n c] 24)).alloc (.cells #[.string hd, .slice a n c] 24)) := ((Below.refl _ w).alloc (Nat.le_refl _) _).alloc (by simp) _
    exact (HT.out _ _).2 ⟨_, rfl, HF.out.below hb, hb⟩
end Go.Proofs.Ytecdjejemohkgaa.Rf
