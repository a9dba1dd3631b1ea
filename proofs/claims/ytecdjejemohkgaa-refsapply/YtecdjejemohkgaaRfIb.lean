/- Refs: slices.Insert of one ref amid a row of its own: walked. -/
import Derived.Test.YtecdjejemohkgaaRfRz
import Derived.Test.YtecdjejemohkgaaRfDb
import Derived.Shelf.Spec.SlicesInsertGrow
namespace Go.Proofs.Ytecdjejemohkgaa.Rf
open Cb Go.RowKit Go.Shelf
theorem run_copyR (w : World) (ty : TypeId) (g off dLen dCap : Nat) (a : Addr) (sLen sCap k : Nat) (cs : List Value) (cur : Array Value) (T : TypeId) (hk : k = Nat.min sLen dLen) (hcl : cs.length = k * 2) (hg : w.heap[g]? = some (.cells cur T (0, 0))) (hfit : off + cs.length ≤ cur.size)
    (hsrc : ∀ j v, cs[j]? = some v → w.cell? (a.add j) = some v) (h1 : ∀ v ∈ cs, v.oneCell' = true) :
    (Builtin.copy_ #[22, 22] ty #[.slice (some ⟨g, off, none⟩) dLen dCap, .slice (some a) sLen sCap]).run Try.prog w = .ok (goInt k) (w.setRow g (splice cur.toList off cs).toArray) := by
  obtain ⟨i0, hi0, hz0, hz1, hz2⟩ := info_parts infoRf
  have hl := run_loadCells_list (P := Try.prog) w a cs hsrc
  have hst := run_storeCells_at Try.prog g off T cs 0 cur w hg (by simpa using hfit) h1
  rw [Nat.add_zero] at hst
  rw [hcl] at hl
  have e : w.setRow g (splice cur.toList off cs).toArray = w.setRow g (cur.toList.take off ++ (cs ++ cur.toList.drop (off + cs.length))).toArray := by rw [splice]
  simp [Builtin.copy_, run_underlying Try.underlying22, Builtin.lenOf, Builtin.firstCells, sizeOf, typeInfo, hi0, hz1, ← hk, hl, hst, e]
theorem splice_app {α : Type} (P Y Q C : List α) (o : Nat) (ho : P.length = o) (hC : C.length = Y.length) : splice (P ++ (Y ++ Q)) o C = P ++ (C ++ Q) := by
  subst ho
  rw [splice, List.take_left' rfl, hC]
  congr 2
  rw [← List.append_assoc, List.drop_left' (by simp)]
theorem splice_in {α : Type} (L A D X : List α) (a d : Nat) (hA : A.length = a) (hD : D.length = d) (hX : X.length = 2) (hL : a + 2 + d ≤ L.length) (ht : L.take a = A) :
    (splice (splice L (a + 2) D) a X).take (a + 2 + d) = A ++ X ++ D := by
  have e0 : L = A ++ ((L.drop a).take 2 ++ (((L.drop a).drop 2).take d ++ ((L.drop a).drop 2).drop d)) := by
    rw [List.take_append_drop, List.take_append_drop, ← ht, List.take_append_drop]
  have h2 : ((L.drop a).take 2).length = 2 := by rw [List.length_take, List.length_drop]; omega
  have h3 : (((L.drop a).drop 2).take d).length = d := by rw [List.length_take, List.length_drop, List.length_drop]; omega
  generalize (L.drop a).take 2 = M at e0 h2
  generalize ((L.drop a).drop 2).take d = D' at e0 h3
  generalize ((L.drop a).drop 2).drop d = Q at e0
  subst e0
  have e1 : A ++ (M ++ (D' ++ Q)) = (A ++ M) ++ (D' ++ Q) := by simp
  rw [e1, splice_app (A ++ M) D' Q D (a + 2) (by simp [hA, h2]) (by rw [hD, h3]), List.append_assoc, splice_app A M (D ++ Q) X a hA (by rw [hX, h2]), ← List.append_assoc, ← List.append_assoc, List.take_left' (by simp [hA, hX, hD]; omega)]
theorem step_copy_R {P : Program} {ops : Array Oper} {o : Oper} {a : Act} {w : World} {K : Act → World → Prop} {Q : Exit → Act → World → Prop} {E : Prop}
    (hg : o.guard = none) (d x : Operand) (dT sT : TypeId) (hop : o.op = Op.call { callee := Callee.builtin Builtin.copy, args := #[d, x], argTypes := #[dT, sT] })
    (v u : Value) (hd : a.eval d = v) (hx : a.eval x = u) {v' : Value} {w' : World} (hr : (Builtin.copy_ #[dT, sT] o.type #[v, u]).run P w = .ok v' w') (hK : K (a.put o.dst v') w') :
    if Region.wanted o (yielded ops a.tmps) = true then Oper.wp P o a w K Q else E := step_copy_runI hg d x dT sT hop v u hd hx hr hK
/-- One ref laid amid others. -/
def insR (l : List Rf) (i : Nat) (x : Rf) : List Rf := l.take i ++ [x] ++ l.drop i
set_option maxHeartbeats 3200000 in
set_option maxRecDepth 100000 in
theorem insertIn_room (B g c : Nat) (l : List Rf) (i : Nat) (x : Rf) (gx : Nat) (w : World) (h : w.ownsRow B 59 2 (.slice (some ⟨g, 0, none⟩) l.length c) l.length (rfsV l)) (hl : l.length ≤ 100000) (hi : i < l.length) (hroom : l.length + 1 ≤ c) (hx : w.heap[gx]? = some (.cells #[.string x.nm, .string x.id] 59 (0, 0))) (hne : gx ≠ g) :
    Calls Try.prog 60 #[.slice (some ⟨g, 0, none⟩) l.length c, .int .i64 (i : Int), .slice (some ⟨gx, 0, none⟩) 1 1] w fun e w' => InsTo B w (.slice (some ⟨g, 0, none⟩) l.length c) (insR l i x) e w' := by
  have HT : Hid (∀ e w', InsTo B w (.slice (some ⟨g, 0, none⟩) l.length c) (insR l i x) e w' ↔ ∃ v', e = .returned v' ∧ w'.ownsRow B 59 2 v' (insR l i x).length (rfsV (insR l i x)) ∧ w.grownBy w' (some g)) := hideIt (fun _ _ => Iff.rfl)
  rcases h.2 with ⟨e, _⟩ | ⟨g', cap, cur, e, hB, hg, hle, hcm, hsz, htk⟩
  · cases e
  cases e
  obtain ⟨n, hn⟩ : ∃ n, l.length = n := ⟨_, rfl⟩
  rw [hn] at hi hroom htk hl ⊢
  have hshx : w.shape? gx = some (59, 2) := by simp [World.shape?, hx]
  have hshg : w.shape? g = some (59, cur.size) := by simp [World.shape?, hg]
  obtain ⟨k, hk⟩ : ∃ k, i + 1 = k := ⟨_, rfl⟩
  obtain ⟨N, hN⟩ : ∃ N, n + 1 = N := ⟨_, rfl⟩
  obtain ⟨q, hq⟩ : ∃ q, n - i = q := ⟨_, rfl⟩
  have kI : (i : Int) + 1 = (k : Int) := by omega
  have nI : (n : Int) + 1 = (N : Int) := by omega
  have hov : ∀ lb cb, (callFunc 61 #[.slice (some ⟨gx, 0, none⟩) 1 1, .slice (some ⟨g, k * 2, none⟩) lb cb]).run Try.prog w = .ok (.value (.bool false)) w := fun lb cb => by
    rw [run_callFunc_extern Try.func61 (by kernel_rfl) (by kernel_rfl) (by kernel_rfl) (e := Extern.SlicesOverlaps.overlaps #[22, 22] #[4]) (by kernel_rfl),
      Lib.run_overlaps_apart w 22 4 59 Try.underlying22 2 (fun w => by obtain ⟨i0, hi0, hz0, hz1, hz2⟩ := info_parts infoRf; simp [sizeOf, typeInfo, hi0, hz1]) ⟨gx, 0, none⟩ ⟨g, k * 2, none⟩ 1 1 lb cb hne _ _ _ _ hshx hshg (by omega) (frz hx 0) (frz hx 2)]
    rfl
  have hla : (rfsV (l.take i)).length = i * 2 := by rw [rfsV_len, List.length_take]; omega
  have hld : (rfsV (l.drop i)).length = q * 2 := by rw [rfsV_len, List.length_drop]; omega
  have hta : cur.toList.take (i * 2) = rfsV (l.take i) := by
    rw [← rfsV_take, ← htk, List.take_take, Nat.min_eq_left (by omega)]
  have htd : ∀ j v, (rfsV (l.drop i))[j]? = some v → w.cell? ⟨g, i * 2 + j, none⟩ = some v := fun j v hj => by
    rw [← rfsV_drop, List.getElem?_drop, ← htk, List.getElem?_take] at hj
    split at hj
    · exact cellAt hg (by simpa using hj)
    · cases hj
  have hcp1 : ∀ ty dc sc, (Builtin.copy_ #[22, 22] ty #[.slice (some ⟨g, k * 2, none⟩) (N - k) dc, .slice (some ⟨g, i * 2, none⟩) (N - i) sc]).run Try.prog w.drew =   .ok (goInt q) (w.drew.setRow g (splice cur.toList (k * 2) (rfsV (l.drop i))).toArray) := fun ty dc sc =>
    run_copyR w.drew ty g (k * 2) (N - k) dc ⟨g, i * 2, none⟩ (N - i) sc q _ cur 59 (by simp only [Nat.min_def]; split <;> omega) hld hg (by rw [hld]; omega) (fun j v hj => by rw [Addr.add_lit]; exact htd j v hj) (rfsV_one _)
  obtain ⟨W1, hW1⟩ : ∃ W1, w.drew.setRow g (splice cur.toList (k * 2) (rfsV (l.drop i))).toArray = W1 := ⟨_, rfl⟩
  have hg1 : W1.heap[g]? = some (.cells (splice cur.toList (k * 2) (rfsV (l.drop i))).toArray 59 (0, 0)) := by
    rw [← hW1]
    exact setRow_heap w.drew g cur _ _ _ hg
  have hgx1 : W1.heap[gx]? = some (.cells #[.string x.nm, .string x.id] 59 (0, 0)) := by
    rw [← hW1, setRow_other w.drew g gx _ hne]
    exact hx
  have hl1 : (splice cur.toList (k * 2) (rfsV (l.drop i))).length = c * 2 := by rw [length_splice _ _ _ (by rw [hld, Array.length_toList]; omega), Array.length_toList, hsz]
  have hcp2 : ∀ ty dc, (Builtin.copy_ #[22, 22] ty #[.slice (some ⟨g, i * 2, none⟩) (N - i) dc, .slice (some ⟨gx, 0, none⟩) 1 1]).run Try.prog W1 = .ok (goInt 1) (W1.setRow g (splice (splice cur.toList (k * 2) (rfsV (l.drop i))) (i * 2) (rfV x)).toArray) := fun ty dc => by
    have := run_copyR W1 ty g (i * 2) (N - i) dc ⟨gx, 0, none⟩ 1 1 1 (rfV x) _ 59 (by simp only [Nat.min_def]; split <;> omega) rfl hg1 (by rw [List.size_toArray, hl1]; simp [rfV]; omega) (fun j v hj => one_flat (cellAt hgx1 rfl) (cellAt hgx1 rfl) j v (by simpa [rfsV] using hj)) (fun u hu => rfsV_one [x] u (by simpa [rfsV] using hu))
    rwa [List.toList_toArray] at this
  have HFN : Hid (InsTo B w (.slice (some ⟨g, 0, none⟩) n c) (insR l i x) (.returned (.slice (some ⟨g, 0, none⟩) N c)) (W1.setRow g (splice (splice cur.toList (k * 2) (rfsV (l.drop i))) (i * 2) (rfV x)).toArray)) := hideIt (by
    have hln : (insR l i x).length = N := by simp [insR]; omega
    refine (HT.out _ _).2 ⟨_, rfl, ?_, ?_⟩
    · rw [hln]
      refine ⟨by rw [rfsV_len, hln], .inr ⟨g, c, _, rfl, hB, setRow_heap W1 g _ _ _ _ hg1, by omega, hcm, ?_, ?_⟩⟩
      · rw [List.size_toArray, length_splice _ _ _ (by rw [hl1]; simp [rfV]; omega), hl1]
      · have hk2 : k * 2 = i * 2 + 2 := by omega
        have hN2 : N * 2 = i * 2 + 2 + q * 2 := by omega
        rw [List.toList_toArray, hk2, hN2, splice_in cur.toList _ _ (rfV x) _ _ hla hld rfl (by rw [Array.length_toList]; omega) hta]
        simp [insR, rfsV]
    · refine grown_setRow ?_ _
      rw [← hW1]
      exact grown_setRow (grown_drew w _) _)
  rw [hW1] at hcp1
  have H1 := hideIt hcp1
  have H2 := hideIt hcp2
  have hne1 : ¬ (i : Int) = (n : Int) := by omega
  have hne2 : decide ((i : Int) = (n : Int)) = false := decide_eq_false hne1
  have hb1 : (N : Int) ≤ (c : Int) := by omega
  have hb2 : decide ((c : Int) < (N : Int)) = false := decide_eq_false (by omega)
  have hb3 : (k : Int) ≤ (N : Int) := by omega
  have hb4 : (i : Int) ≤ (N : Int) := by omega
  have hb5 : (i : Int) ≤ (n : Int) := by omega
  have hb6 : ¬ c = k := by omega
  have hb7 : ¬ c = i := by omega
  have hb8 : k ≤ N := by omega
  have hb9 : i ≤ N := by omega
  have hcI : (c : Int) ≤ 9223372036854775807 := by unfold maxLen at hcm; omega
  have hNc : N ≤ c := by omega
  have hw1 : IntKind.i64.wrap (k : Int) = (k : Int) := by rw [IntKind.wrap_i64]; omega
  have hw2 : IntKind.i64.wrap (N : Int) = (N : Int) := by rw [IntKind.wrap_i64]; omega
  clear hcp1 hcp2 hW1 hg1 hgx1 hl1 htd hta hla hld hsz htk hg hx h hn HT hk hN hq hshx hshg
  go_enter Try.func60, Try.ntmps60
  go_wp2_with (simp only [hov])
  go_region_law (first | (refine step_copy_runI rfl _ _ 22 22 rfl _ _ (by simp [Act.eval, Act.put]; rfl) (by simp [Act.eval, Act.put]; rfl) (H1.out _ _ _) ?_) | go_loud (refine step_copy_runI (by rfl) _ _ 22 22 (by rfl) _ _ (by go_simp) (by go_simp) (H1.out _ _ _) ?_))
  have hc2 := H2.out
  go_wp2
  go_ret
  exact HFN.out
end Go.Proofs.Ytecdjejemohkgaa.Rf
