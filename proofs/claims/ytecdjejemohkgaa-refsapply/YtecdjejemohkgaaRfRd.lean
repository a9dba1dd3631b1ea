/- Refs: slices.Delete at refs: walked. -/
import Derived.Test.YtecdjejemohkgaaRfRa
import Derived.Lib.SliceRun
import Derived.Deep.RegionLaw
import Derived.Deep.CutRange
namespace Go.Proofs.Ytecdjejemohkgaa.Rf
open Cb Go.RowKit
theorem frz {w : World} {g : Nat} {cs : Array Value} {t : TypeId} (h : w.heap[g]? = some (.cells cs t (0, 0))) (i : Nat) : w.frozen? ⟨g, i, none⟩ = false := by simp [World.frozen?, h]
theorem setCells_row {w : World} {g o : Nat} {t : TypeId} {cur : Array Value} (vs : List Value) (hg : w.heap[g]? = some (.cells cur t (0, 0))) (hl : o + vs.length ≤ cur.size) (h1 : ∀ v ∈ vs, v.oneCell' = true) : w.setCells g o vs = w.setRow g (splice cur.toList o vs).toArray := by
  have a := run_storeCells_cells (P := Try.prog) g o vs 0 w (fun j hj => by
    rw [Nat.add_zero, cellAt hg (Array.getElem?_eq_getElem (by omega))]
    rfl) (fun j hj => frz hg _) h1
  have b := run_storeCells_at Try.prog g o t vs 0 cur w hg (by simpa using hl) h1
  rw [Nat.add_zero] at a b
  have := a.symm.trans b
  injection this with _ e
  rw [e, splice, List.append_assoc]
theorem clear_k (w : World) (t e ty : TypeId) (z : Value) (k : Nat) (ht : Try.prog.underlying t = some (.slice e)) (hv : ∀ w, (zeroValue e).run Try.prog w = .ok z w) (hz : z.cells.size = k) (hk : 0 < k) (h1 : ∀ v ∈ z.cells.toList, v.oneCell' = true) (g o n c : Nat) (cur : Array Value) (T : TypeId) (hg : w.heap[g]? = some (.cells cur T (0, 0))) (hn : 0 < n) (hl : o + n * k ≤ cur.size) :
    ∃ cs : List Value, cs.length = n * k ∧ (Builtin.clear_ #[t] ty #[.slice (some ⟨g, o, none⟩) n c]).run Try.prog w = .ok (.tuple #[]) (w.setRow g (splice cur.toList o cs).toArray) := by
  refine ⟨(Builtin.zeroCells z.cells n).toList, by simp [Builtin.zeroCells, hz], ?_⟩
  have h2 : ∀ v ∈ (Builtin.zeroCells z.cells n).toList, v.oneCell' = true := by
    intro v hv'
    simp only [Builtin.zeroCells, Array.toList_map, List.mem_map] at hv'
    obtain ⟨j, hj, rfl⟩ := hv'
    have hlt : j % z.cells.size < z.cells.size := Nat.mod_lt _ (by omega)
    rw [getElem!_pos z.cells _ hlt]
    exact h1 _ (Array.getElem_mem_toList hlt)
  have hst := run_storeCells_at Try.prog g o T (Builtin.zeroCells z.cells n).toList 0 cur w hg (by simp [Builtin.zeroCells, hz]; omega) h2
  rw [Nat.add_zero] at hst
  obtain ⟨m, rfl⟩ : ∃ m, n = m + 1 := ⟨n - 1, by omega⟩
  simp only [Builtin.clear_] 
  simp [run_underlying ht, hv, hst, splice, List.append_assoc]
/-- What a call leaves of a row of one's own: all else is as it was. -/
def Lies (w : World) (v v' : Value) : Prop := v'.ownBlock = v.ownBlock ∨ ∃ g, v'.ownBlock = some g ∧ w.heap.size ≤ g
def MvTo (B : Nat) (w : World) (v : Value) (l : List Rf) (e : Ending) (w' : World) : Prop := ∃ v', e = .returned v' ∧ w'.ownsRow B 59 2 v' l.length (rfsV l) ∧ w.grownBy w' v.ownBlock ∧ Lies w v v'
theorem grown_setRow {w W : World} {g : Nat} (hW : w.grownBy W (some g)) (cs : Array Value) : w.grownBy (W.setRow g cs) (some g) :=
  ⟨hW.os, hW.tape, hW.output, by simpa [World.setRow] using hW.size, fun k hk hne => by
    rw [setRow_other W g k cs (fun e => hne (by rw [e]))]
    exact hW.block k hk hne⟩
theorem grown_drew (w : World) (row : Option Nat) : w.grownBy w.drew row := ⟨rfl, rfl, rfl, Nat.le_refl _, fun _ _ _ => rfl⟩
theorem take_splice {α : Type} (L : List α) (off : Nat) (cs : List α) (h : off ≤ L.length) : (splice L off cs).take off = L.take off := by
  rw [splice, List.take_append_of_le_length (by simp; omega), List.take_take, Nat.min_self]
theorem splice_two {α : Type} (L : List α) (off : Nat) (cs : List α) (k : Nat) (h : k = off + cs.length) (hl : off ≤ L.length) : (splice L off cs).take k = L.take off ++ cs := by
  have e : (L.take off).length = off := by rw [List.length_take]; omega
  rw [splice, h, List.take_append, e, List.take_of_length_le (by omega), Nat.add_sub_cancel_left, List.take_append_of_le_length (Nat.le_refl _), List.take_length]
set_option maxHeartbeats 1600000 in
set_option maxRecDepth 100000 in
theorem delete_any (B : Nat) (v : Value) (l : List Rf) (i j : Nat) (w : World) (h : w.ownsRow B 59 2 v l.length (rfsV l)) (hi : i < l.length) (hj : j = i + 1) (hn : l.length ≤ 100000) :
    Calls Try.prog 48 #[v, .int .i64 (i : Int), .int .i64 (j : Int)] w fun e w' => MvTo B w v (l.take i ++ l.drop j) e w' := by
  obtain ⟨i0, hi0, hz0, hz1, hz2⟩ := info_parts infoRf
  have HT : Hid (∀ e w', MvTo B w v (l.take i ++ l.drop j) e w' ↔ ∃ v', e = .returned v' ∧ w'.ownsRow B 59 2 v' (l.take i ++ l.drop j).length (rfsV (l.take i ++ l.drop j)) ∧ w.grownBy w' v.ownBlock ∧ Lies w v v') := hideIt (fun _ _ => Iff.rfl)
  rcases h.2 with ⟨_, h0⟩ | ⟨g, cap, cur, rfl, hB, hg, hle, hcm, hsz, htk⟩
  · omega
  obtain ⟨n, hnl⟩ : ∃ n, l.length = n := ⟨_, rfl⟩
  obtain ⟨news, hnews⟩ : ∃ news, rfsV (l.drop j) = news := ⟨_, rfl⟩
  have hlen : news.length = (n - j) * 2 := by rw [← hnews, rfsV_len, List.length_drop, hnl]
  have hsrc0 : ∀ k u, news[k]? = some u → w.drew.cell? ⟨g, j * 2 + k, none⟩ = some u := fun k u hu => by
    rw [← hnews, ← rfsV_drop, List.getElem?_drop, ← htk, List.getElem?_take] at hu
    split at hu
    · exact cellAt (w := w.drew) hg (by simpa using hu)
    · cases hu
  rw [hnl] at hi hle htk hn ⊢
  obtain ⟨A, hA, hsrc⟩ : ∃ A : Addr, (if cap = j then some (⟨g, 0, none⟩ : Addr) else some ⟨g, j * 2, none⟩) = some A ∧ Hid (∀ t u, news[t]? = some u → w.drew.cell? (A.add t) = some u) := by
    by_cases h : cap = j
    · refine ⟨⟨g, 0, none⟩, by simp [h], fun t u hu => ?_⟩
      have h0 : news.length = 0 := by rw [hlen]; omega
      rw [List.length_eq_zero_iff.1 h0] at hu
      simp at hu
    · exact ⟨⟨g, j * 2, none⟩, by simp [h], fun t u hu => by rw [Addr.add_lit]; exact hsrc0 t u hu⟩
  have s1 : Hid (news.length = (n - j) * 2) := hideIt hlen
  have s2 : Hid (∀ u ∈ news, u.oneCell' = true) := hideIt (by rw [← hnews]; exact rfsV_one _)
  have hfit : i * 2 + news.length ≤ cur.size := by rw [hlen, hsz]; omega
  have s3 : Hid (∀ t, t < news.length → (w.drew.cell? ⟨g, 0 + i * 2 + t, none⟩).isSome = true ∧ w.drew.frozen? ⟨g, 0 + i * 2 + t, none⟩ = false) := hideIt (fun t ht => ⟨by
    rw [Nat.zero_add, cellAt (w := w.drew) hg (Array.getElem?_eq_getElem (by omega))]
    rfl, frz (w := w.drew) hg _⟩)
  obtain ⟨W1, hW1⟩ : ∃ W1, w.drew.setCells g (0 + i * 2) news = W1 := ⟨_, rfl⟩
  have hW : Hid (w.drew.setCells g (0 + i * 2) news = W1) := hideIt hW1
  have hrow : W1 = w.drew.setRow g (splice cur.toList (i * 2) news).toArray := by
    rw [← hW1, Nat.zero_add]
    exact setCells_row (w := w.drew) news hg hfit s2.out
  have hg1 : W1.heap[g]? = some (.cells (splice cur.toList (i * 2) news).toArray 59 (0, 0)) := by
    rw [hrow]
    exact setRow_heap w.drew g cur _ _ _ hg
  have hgr : w.grownBy W1 (some g) := by rw [hrow]; exact grown_setRow (grown_drew w _) _
  have hl1 : (splice cur.toList (i * 2) news).length = cap * 2 := by rw [length_splice _ _ _ (by rw [Array.length_toList]; exact hfit), Array.length_toList, hsz]
  obtain ⟨cs, hcs, hclr⟩ := clear_k W1 22 59 0 (.agg #[.string ⟨#[]⟩, .string ⟨#[]⟩]) 2 Try.underlying22 (fun w => by simp [zeroValue, typeInfo, hi0, hz0]) rfl (by omega) (by simp [Value.cells, Value.oneCell']) g ((i + (n - j)) * 2) 1 (cap - (i + (n - j))) _ _ hg1 (by omega) (by rw [List.size_toArray, hl1]; omega)
  have HC := hideIt hclr
  have hic : i ≤ cap := by omega
  have hjc : j ≤ cap := by omega
  have iI : (i : Int) ≤ 100000 := by omega
  have nI : (n : Int) ≤ 100000 := by omega
  have hij : i ≤ j := by omega
  have hjn : j ≤ n := by omega
  have hne : ¬ (i : Int) = (j : Int) := by omega
  have hne2 : decide ((i : Int) = (j : Int)) = false := decide_eq_false hne
  have hc1 : ¬ cap = i + (n - j) := by omega
  have hFIN : Hid (MvTo B w (.slice (some ⟨g, 0, none⟩) n cap) (l.take i ++ l.drop j) (.returned (.slice (some ⟨g, 0, none⟩) (i + (n - j)) cap)) (W1.setRow g (splice (splice cur.toList (i * 2) news).toArray.toList ((i + (n - j)) * 2) cs).toArray)) := hideIt (by
    have hll : (l.take i ++ l.drop j).length = i + (n - j) := by rw [List.length_append, List.length_take, List.length_drop, hnl]; omega
    refine (HT.out _ _).2 ⟨_, rfl, ?_, grown_setRow hgr _, .inl rfl⟩
    rw [hll]
    refine ⟨by rw [rfsV_len, hll], .inr ⟨g, cap, _, rfl, hB, setRow_heap W1 g _ _ _ _ hg1, by omega, hcm, ?_, ?_⟩⟩
    · rw [List.size_toArray, length_splice _ _ _ (by rw [List.toList_toArray, hl1, hcs]; omega), List.toList_toArray, hl1]
    · rw [List.toList_toArray, List.toList_toArray, take_splice _ _ _ (by rw [hl1]; omega), splice_two cur.toList (i * 2) news _ (by rw [hlen]; omega) (by rw [Array.length_toList]; omega), rfsV_append, ← hnews, ← rfsV_take, ← htk, List.take_take, Nat.min_eq_left (by omega)])
  have hi2 : i + (n - j) + 1 = n := by omega
  have HI2 := hideIt hi2
  clear hW1 hrow hg1 hgr hl1 hcs hclr hfit hlen hsrc0 hnews htk hsz hg h HT hcm hj hi2
  go_enter Try.func48, Try.ntmps48
  go_wp2_with fail
  go_region_law (refine step_append_room rfl (.tmp 22) (.tmp 25) 22 rfl 59 i0 2 Try.underlying22 hi0 hz1 g 0 i cap (by simp [Act.eval, Act.put]) A (n - j) (cap - j) news (by simp [Act.eval, Act.put]) s1.out hsrc.out s2.out (by omega) s3.out ?_; rw [hW.out])
  have hcl := HC.out
  have e1 : n - (i + (n - j)) = 1 := by have := HI2.out; omega
  go_wp2
  go_ret
  exact hFIN.out
end Go.Proofs.Ytecdjejemohkgaa.Rf
