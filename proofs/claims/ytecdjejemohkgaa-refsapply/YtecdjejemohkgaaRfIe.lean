/- Refs: slices.Replace of one ref by one, amid others: walked. -/
import Derived.Test.YtecdjejemohkgaaRfId
namespace Go.Proofs.Ytecdjejemohkgaa.Rf
open Cb Go.RowKit Go.Shelf
set_option maxHeartbeats 3200000 in
set_option maxRecDepth 100000 in
theorem replace_in (B g c : Nat) (l : List Rf) (i : Nat) (x : Rf) (gx : Nat) (w : World) (h : w.ownsRow B 59 2 (.slice (some ⟨g, 0, none⟩) l.length c) l.length (rfsV l)) (hl : l.length ≤ 100000) (hi : i + 1 < l.length) (hx : w.heap[gx]? = some (.cells #[.string x.nm, .string x.id] 59 (0, 0))) :
    Calls Try.prog 49 #[.slice (some ⟨g, 0, none⟩) l.length c, .int .i64 (i : Int), .int .i64 ((i + 1 : Nat) : Int), .slice (some ⟨gx, 0, none⟩) 1 1] w fun e w' => InsTo B w (.slice (some ⟨g, 0, none⟩) l.length c) (repR l i x) e w' := by
  have HT : Hid (∀ e w', InsTo B w (.slice (some ⟨g, 0, none⟩) l.length c) (repR l i x) e w' ↔ ∃ v', e = .returned v' ∧ w'.ownsRow B 59 2 v' (repR l i x).length (rfsV (repR l i x)) ∧ w.grownBy w' (some g)) := hideIt (fun _ _ => Iff.rfl)
  rcases h.2 with ⟨e, _⟩ | ⟨g', cap, cur, e, hB, hg, hle, hcm, hsz, htk⟩
  · cases e
  cases e
  obtain ⟨n, hn⟩ : ∃ n, l.length = n := ⟨_, rfl⟩
  rw [hn] at hi htk hl hle ⊢
  obtain ⟨k, hk⟩ : ∃ k, i + 1 = k := ⟨_, rfl⟩
  rw [hk]
  obtain ⟨q, hq⟩ : ∃ q, n - k = q := ⟨_, rfl⟩
  have kI : (i : Int) + 1 = (k : Int) := by omega
  have hla : (rfsV (l.take i)).length = i * 2 := by rw [rfsV_len, List.length_take]; omega
  have hld : (rfsV (l.drop k)).length = q * 2 := by rw [rfsV_len, List.length_drop]; omega
  have hta : cur.toList.take (i * 2) = rfsV (l.take i) := by
    rw [← rfsV_take, ← htk, List.take_take, Nat.min_eq_left (by omega)]
  have hs0 : i * 2 + (rfV x).length ≤ cur.size := by rw [hsz]; simp [rfV]; omega
  have hcp1 : ∀ ty dc, (Builtin.copy_ #[22, 22] ty #[.slice (some ⟨g, i * 2, none⟩) (n - i) dc, .slice (some ⟨gx, 0, none⟩) 1 1]).run Try.prog w.drew = .ok (goInt 1) (w.drew.setRow g (splice cur.toList (i * 2) (rfV x)).toArray) := fun ty dc =>
    run_copyR w.drew ty g (i * 2) (n - i) dc ⟨gx, 0, none⟩ 1 1 1 (rfV x) cur 59 (by simp only [Nat.min_def]; split <;> omega) rfl hg hs0 (fun j v hj => one_flat (w := w.drew) (cellAt (w := w.drew) hx rfl) (cellAt (w := w.drew) hx rfl) j v (by simpa [rfsV] using hj)) (fun u hu => rfsV_one [x] u (by simpa [rfsV] using hu))
  obtain ⟨W1, hW1⟩ : ∃ W1, w.drew.setRow g (splice cur.toList (i * 2) (rfV x)).toArray = W1 := ⟨_, rfl⟩
  have hg1 : W1.heap[g]? = some (.cells (splice cur.toList (i * 2) (rfV x)).toArray 59 (0, 0)) := by
    rw [← hW1]
    exact setRow_heap w.drew g cur _ _ _ hg
  have hl1 : (splice cur.toList (i * 2) (rfV x)).length = c * 2 := by rw [length_splice _ _ _ (by rw [show cur.toList.length = cur.size from Array.length_toList]; exact hs0), Array.length_toList, hsz]
  have hdr : ∀ j, (splice cur.toList (i * 2) (rfV x))[k * 2 + j]? = cur.toList[k * 2 + j]? := fun j => by
    have e2 : (rfV x).length = 2 := rfl
    have ht : (cur.toList.take (i * 2)).length = i * 2 := by rw [List.length_take, Array.length_toList, hsz]; omega
    rw [splice, List.getElem?_append_right (by omega), ht, List.getElem?_append_right (by omega), e2, List.getElem?_drop]
    congr 1
    omega
  have hcp2 : ∀ ty dc sc, (Builtin.copy_ #[22, 22] ty #[.slice (some ⟨g, k * 2, none⟩) (n - k) dc, .slice (some ⟨g, k * 2, none⟩) (n - k) sc]).run Try.prog W1.drew = .ok (goInt q) (W1.drew.setRow g (splice (splice cur.toList (i * 2) (rfV x)) (k * 2) (rfsV (l.drop k))).toArray) := fun ty dc sc => by
    have := run_copyR W1.drew ty g (k * 2) (n - k) dc ⟨g, k * 2, none⟩ (n - k) sc q (rfsV (l.drop k)) _ 59 (by simp only [Nat.min_def]; split <;> omega) hld hg1 (by rw [hld, List.size_toArray, hl1]; omega) (fun j v hj => by
      rw [Addr.add_lit]
      refine cellAt (w := W1.drew) hg1 ?_
      rw [List.getElem?_toArray, hdr j]
      rw [← rfsV_drop, List.getElem?_drop, ← htk, List.getElem?_take] at hj
      split at hj
      · exact hj
      · cases hj) (rfsV_one _)
    rwa [List.toList_toArray] at this
  have HFN : Hid (InsTo B w (.slice (some ⟨g, 0, none⟩) n c) (repR l i x) (.returned (.slice (some ⟨g, 0, none⟩) n c)) (W1.drew.setRow g (splice (splice cur.toList (i * 2) (rfV x)) (k * 2) (rfsV (l.drop k))).toArray)) := hideIt (by
    have hln : (repR l i x).length = n := by simp [repR]; omega
    refine (HT.out _ _).2 ⟨_, rfl, ?_, ?_⟩
    · rw [hln]
      refine ⟨by rw [rfsV_len, hln], .inr ⟨g, c, _, rfl, hB, setRow_heap W1.drew g _ _ _ _ hg1, by omega, hcm, ?_, ?_⟩⟩
      · rw [List.size_toArray, length_splice _ _ _ (by rw [hl1, hld]; omega), hl1]
      · have hk2 : k * 2 = i * 2 + 2 := by omega
        have hN2 : n * 2 = i * 2 + 2 + q * 2 := by omega
        rw [List.toList_toArray, hk2, hN2, splice_on cur.toList _ _ (rfV x) _ _ hla hld rfl (by rw [Array.length_toList]; omega) hta]
        simp [repR, rfsV, hk]
    · have h1 : w.grownBy W1 (some g) := by rw [← hW1]; exact grown_setRow (grown_drew w _) _
      exact grown_setRow (W := W1.drew) ⟨h1.os, h1.tape, h1.output, h1.size, h1.block⟩ _)
  rw [hW1] at hcp1
  have HB3 := hideIt hcp2
  have hclr : ∀ ty a (cc : Nat) W, (Builtin.clear_ #[22] ty #[.slice a 0 cc]).run Try.prog W = .ok (.tuple #[]) W   := fun ty a cc W => by
    cases a <;> simp [Builtin.clear_, run_underlying Try.underlying22]
  have hb0 : (0 : Int) ≤ (i : Int) := by omega
  have hb1 : (i : Int) ≤ (k : Int) := by omega
  have hb2 : (k : Int) ≤ (c : Int) := by omega
  have hb3 : (k : Int) ≤ (n : Int) := by omega
  have hb4 : (i : Int) ≤ (n : Int) := by omega
  have hb5 : (i : Int) ≤ (c : Int) := by omega
  have hne1 : ¬ (i : Int) = (k : Int) := by omega
  have hne2 : decide ((i : Int) = (k : Int)) = false := decide_eq_false hne1
  have hne3 : ¬ (k : Int) = (n : Int) := by omega
  have hne4 : decide ((k : Int) = (n : Int)) = false := decide_eq_false hne3
  have hb6 : ¬ c = k := by omega
  have hb7 : ¬ c = i := by omega
  have hb8 : k ≤ n := by omega
  have hb9 : i ≤ n := by omega
  have hb10 : i ≤ k := by omega
  have hb11 : (n : Int) ≤ (c : Int) := by omega
  have hb12 : decide ((c : Int) < (n : Int)) = false := decide_eq_false (by omega)
  have hcI : (c : Int) ≤ 9223372036854775807 := by unfold maxLen at hcm; omega
  have hw1 : IntKind.i64.wrap (k : Int) = (k : Int) := by rw [IntKind.wrap_i64]; omega
  have hw2 : IntKind.i64.wrap (n : Int) = (n : Int) := by rw [IntKind.wrap_i64]; omega
  have htot : (k : Int) + (n - k : Nat) = (n : Int) := by omega
  have htot2 : (k : Int) + ((n : Int) - (k : Int)) = (n : Int) := by omega
  clear hcp2 hW1 hg1 hl1 hdr hta hla hld hsz htk hg hx h hn HT hk hq hs0 hl
  go_enter Try.func49, Try.ntmps49
  go_wp2
  go_region
  all_goals go_wp2
  go_region_law (refine step_copy_runI rfl _ _ 22 22 rfl _ _ (by simp [Act.eval, Act.put]; rfl) (by simp [Act.eval, Act.put]; rfl) (HB3.out _ _ _) ?_)
  by_cases hcn : c = n
  · go_wp2
    go_ret
    exact HFN.out
  · go_wp2
    go_ret
    exact HFN.out
end Go.Proofs.Ytecdjejemohkgaa.Rf
