/- Refs: slices.Insert of one ref amid a row of its own that has no room: walked. -/
import Derived.Test.YtecdjejemohkgaaRfIb
namespace Go.Proofs.Ytecdjejemohkgaa.Rf
open Cb Go.RowKit Go.Shelf
theorem splice_on {α : Type} (L A D X : List α) (a d : Nat) (hA : A.length = a) (hD : D.length = d) (hX : X.length = 2) (hL : a + 2 + d ≤ L.length) (ht : L.take a = A) :
    (splice (splice L a X) (a + 2) D).take (a + 2 + d) = A ++ X ++ D := by
  have e0 : L = A ++ ((L.drop a).take 2 ++ (((L.drop a).drop 2).take d ++ ((L.drop a).drop 2).drop d)) := by
    rw [List.take_append_drop, List.take_append_drop, ← ht, List.take_append_drop]
  have h2 : ((L.drop a).take 2).length = 2 := by rw [List.length_take, List.length_drop]; omega
  have h3 : (((L.drop a).drop 2).take d).length = d := by rw [List.length_take, List.length_drop, List.length_drop]; omega
  generalize (L.drop a).take 2 = M at e0 h2
  generalize ((L.drop a).drop 2).take d = D' at e0 h3
  generalize ((L.drop a).drop 2).drop d = Q at e0
  subst e0
  have e1 : A ++ (X ++ (D' ++ Q)) = (A ++ X) ++ (D' ++ Q) := by simp
  rw [splice_app A M (D' ++ Q) X a hA (by rw [hX, h2]), e1, splice_app (A ++ X) D' Q D (a + 2) (by simp [hA, hX]) (by rw [hD, h3]), ← List.append_assoc, List.take_left' (by simp [hA, hX, hD]; omega)]
theorem zero_len (k : Nat) : (Builtin.zeroCells (Value.agg #[.string ⟨#[]⟩, .string ⟨#[]⟩]).cells k).size = k * 2 := by simp [Builtin.zeroCells, Value.cells]
set_option maxHeartbeats 3200000 in
set_option maxRecDepth 100000 in
theorem insertIn_grow (B g c : Nat) (l : List Rf) (i : Nat) (x : Rf) (gx : Nat) (w : World) (h : w.ownsRow B 59 2 (.slice (some ⟨g, 0, none⟩) l.length c) l.length (rfsV l)) (hB0 : B ≤ w.heap.size) (hl : l.length ≤ 100000) (hi : i < l.length) (hroom : c < l.length + 1) (hx : w.heap[gx]? = some (.cells #[.string x.nm, .string x.id] 59 (0, 0))) :
    Calls Try.prog 60 #[.slice (some ⟨g, 0, none⟩) l.length c, .int .i64 (i : Int), .slice (some ⟨gx, 0, none⟩) 1 1] w fun e w' => InsTo B w (.slice (some ⟨g, 0, none⟩) l.length c) (insR l i x) e w' := by
  have HT : Hid (∀ e w', InsTo B w (.slice (some ⟨g, 0, none⟩) l.length c) (insR l i x) e w' ↔ ∃ v', e = .returned v' ∧ w'.ownsRow B 59 2 v' (insR l i x).length (rfsV (insR l i x)) ∧ w.grownBy w' (some g)) := hideIt (fun _ _ => Iff.rfl)
  obtain ⟨i0, hi0, hz0, hz1, hz2⟩ := info_parts infoRf
  rcases h.2 with ⟨e, _⟩ | ⟨g', cap, cur, e, hB, hg, hle, hcm, hsz, htk⟩
  · cases e
  cases e
  obtain ⟨n, hn⟩ : ∃ n, l.length = n := ⟨_, rfl⟩
  rw [hn] at hi hroom htk hl hle ⊢
  have hgw : g < w.heap.size := block_lt hg
  have hxw : gx < w.heap.size := block_lt hx
  obtain ⟨k, hk⟩ : ∃ k, i + 1 = k := ⟨_, rfl⟩
  obtain ⟨N, hN⟩ : ∃ N, n + 1 = N := ⟨_, rfl⟩
  obtain ⟨q, hq⟩ : ∃ q, n - i = q := ⟨_, rfl⟩
  obtain ⟨d, hd⟩ : ∃ d, N - i = d := ⟨_, rfl⟩
  have kI : (i : Int) + 1 = (k : Int) := by omega
  have nI : (n : Int) + 1 = (N : Int) := by omega
  have dI : (N : Int) - (i : Int) = (d : Int) := by omega
  have hla : (rfsV (l.take i)).length = i * 2 := by rw [rfsV_len, List.length_take]; omega
  have hld : (rfsV (l.drop i)).length = q * 2 := by rw [rfsV_len, List.length_drop]; omega
  have hta : cur.toList.take (i * 2) = rfsV (l.take i) := by
    rw [← rfsV_take, ← htk, List.take_take, Nat.min_eq_left (by omega)]
  have htd : ∀ j v, (rfsV (l.drop i))[j]? = some v → w.cell? ⟨g, i * 2 + j, none⟩ = some v := fun j v hj => by
    rw [← rfsV_drop, List.getElem?_drop, ← htk, List.getElem?_take] at hj
    split at hj
    · exact cellAt hg (by simpa using hj)
    · cases hj
  have hold : (Builtin.firstCells i0.size i (.slice (some ⟨g, 0, none⟩) i c)).run Try.prog w.drew = .ok (rfsV (l.take i)).toArray w.drew := by
    rw [hz1]
    exact run_firstCells_some w.drew 2 i ⟨g, 0, none⟩ i c (rfsV (l.take i)) (by rw [hla]) (fun j v hj => by
      rw [Addr.add_lit, Nat.zero_add]
      rw [← hta, List.getElem?_take] at hj
      split at hj
      · exact cellAt (w := w.drew) hg (by simpa using hj)
      · cases hj)
  obtain ⟨G, hG⟩ : ∃ G, grownCap w N c 59 = G := ⟨_, rfl⟩
  obtain ⟨ROW, hROW⟩ : ∃ ROW : Array Value, (rfsV (l.take i)).toArray ++ Builtin.zeroCells (Value.agg #[.string ⟨#[]⟩, .string ⟨#[]⟩]).cells d ++ Builtin.zeroCells (Value.agg #[.string ⟨#[]⟩, .string ⟨#[]⟩]).cells (G - N) = ROW := ⟨_, rfl⟩
  obtain ⟨W1, hW1⟩ : ∃ W1, w.drew.alloc (.cells ROW 59) = W1 := ⟨_, rfl⟩
  have hid : i + d = N := by omega
  have hrz : ∀ ty, (Builtin.append_ #[22, 3] ty #[.slice (some ⟨g, 0, none⟩) i c, .int .i64 (d : Int)]).run Try.prog w = .ok (.slice (some ⟨w.heap.size, 0, none⟩) N G) W1 := fun ty => by
    have h := Lib.run_append_grow_zeros w 22 3 ty 59 i0 _ .i64 .i64 Try.underlying22 Try.underlying3 hi0 hz0 (some ⟨g, 0, none⟩) i c (rfsV (l.take i)) hold d (by omega) (by omega) (by omega) (by omega) (by rw [hz2]; omega) (by rw [hz2, hid]; exact growslice_fits (by omega) (by omega))
    rw [hid, hG, hROW, hW1] at h
    exact h
  have hGn : N ≤ G := by rw [← hG]; exact grownCap_ge w _ _ _
  have hGm : G ≤ maxLen := by
    have := grownCap_le_maxLen w N c 59 (by unfold maxLen; omega)
    rw [hG] at this
    exact this
  have hRs : ROW.size = G * 2 := by
    rw [← hROW, Array.size_append, Array.size_append, zero_len, zero_len, List.size_toArray, hla]; omega
  have hRt : ROW.toList.take (i * 2) = rfsV (l.take i) := by
    rw [← hROW, Array.toList_append, Array.toList_append, List.append_assoc, List.take_left' hla]
  obtain ⟨M, hM⟩ : ∃ M, w.heap.size = M := ⟨_, rfl⟩
  rw [hM] at hrz
  have hg1 : W1.heap[M]? = some (.cells ROW 59 (0, 0)) := by rw [← hW1, ← hM]; exact alloc_at (w := w.drew) rfl
  have old1 : ∀ b, b < w.heap.size → W1.heap[b]? = w.heap[b]? := fun b hb => by rw [← hW1]; exact Below.heap_alloc w.drew _ b hb
  have hcpA : ∀ ty dc, (Builtin.copy_ #[22, 22] ty #[.slice (some ⟨M, i * 2, none⟩) (N - i) dc, .slice (some ⟨gx, 0, none⟩) 1 1]).run Try.prog W1 = .ok (goInt 1) (W1.setRow M (splice ROW.toList (i * 2) (rfV x)).toArray) := fun ty dc =>
    run_copyR W1 ty M (i * 2) (N - i) dc ⟨gx, 0, none⟩ 1 1 1 (rfV x) _ 59 (by simp only [Nat.min_def]; split <;> omega) rfl hg1 (by rw [hRs]; simp [rfV]; omega) (fun j v hj => by
      have hb := (old1 gx hxw).trans hx
      exact one_flat (cellAt hb rfl) (cellAt hb rfl) j v (by simpa [rfsV] using hj)) (fun u hu => rfsV_one [x] u (by simpa [rfsV] using hu))
  obtain ⟨W2, hW2⟩ : ∃ W2, W1.setRow M (splice ROW.toList (i * 2) (rfV x)).toArray = W2 := ⟨_, rfl⟩
  have hg2 : W2.heap[M]? = some (.cells (splice ROW.toList (i * 2) (rfV x)).toArray 59 (0, 0)) := by
    rw [← hW2]
    exact setRow_heap W1 M ROW _ _ _ hg1
  have hs1 : (splice ROW.toList (i * 2) (rfV x)).length = G * 2 := by rw [length_splice _ _ _ (by rw [show (rfV x).length = 2 from rfl, Array.length_toList, hRs]; omega), Array.length_toList, hRs]
  have old2 : ∀ b, b < w.heap.size → W2.heap[b]? = w.heap[b]? := fun b hb => by rw [← hW2, setRow_other W1 M b _ (by omega)]; exact old1 b hb
  have hcpB : ∀ ty dc sc, (Builtin.copy_ #[22, 22] ty #[.slice (some ⟨M, k * 2, none⟩) (N - k) dc, .slice (some ⟨g, i * 2, none⟩) (n - i) sc]).run Try.prog W2.drew = .ok (goInt q) (W2.drew.setRow M (splice (splice ROW.toList (i * 2) (rfV x)) (k * 2) (rfsV (l.drop i))).toArray) := fun ty dc sc => by
    have := run_copyR W2.drew ty M (k * 2) (N - k) dc ⟨g, i * 2, none⟩ (n - i) sc q (rfsV (l.drop i)) _ 59 (by simp only [Nat.min_def]; split <;> omega) hld hg2 (by rw [hld, List.size_toArray, hs1]; omega) (fun j v hj => by
      rw [Addr.add_lit, show W2.drew.cell? ⟨g, i * 2 + j, none⟩ = w.cell? ⟨g, i * 2 + j, none⟩ from World.cell?_of_block (old2 g hgw)]
      exact htd j v hj) (rfsV_one _)
    rwa [List.toList_toArray] at this
  have HFN : Hid (InsTo B w (.slice (some ⟨g, 0, none⟩) n c) (insR l i x) (.returned (.slice (some ⟨M, 0, none⟩) N G)) (W2.drew.setRow M (splice (splice ROW.toList (i * 2) (rfV x)) (k * 2) (rfsV (l.drop i))).toArray)) := hideIt (by
    have hln : (insR l i x).length = N := by simp [insR]; omega
    refine (HT.out _ _).2 ⟨_, rfl, ?_, ?_⟩
    · rw [hln]
      refine ⟨by rw [rfsV_len, hln], .inr ⟨M, G, _, rfl, by omega, setRow_heap W2.drew M _ _ _ _ hg2, by omega, hGm, ?_, ?_⟩⟩
      · rw [List.size_toArray, length_splice _ _ _ (by rw [hs1, hld]; omega), hs1]
      · have hk2 : k * 2 = i * 2 + 2 := by omega
        have hN2 : N * 2 = i * 2 + 2 + q * 2 := by omega
        rw [List.toList_toArray, hk2, hN2, splice_on ROW.toList _ _ (rfV x) _ _ hla hld rfl (by rw [Array.length_toList, hRs]; omega) hRt]
        simp [insR, rfsV]
    · refine ⟨by rw [← hW2, ← hW1]; rfl, by rw [← hW2, ← hW1]; rfl, by rw [← hW2, ← hW1]; rfl, ?_, fun b hb _ => ?_⟩
      · have : M < W2.heap.size := block_lt hg2
        have e : ∀ cs, (W2.drew.setRow M cs).heap.size = W2.heap.size := fun cs => by simp [World.setRow]
        rw [e]; omega
      · rw [setRow_other W2.drew M b _ (by omega)]
        exact old2 b hb)
  rw [hW2] at hcpA
  have HB3 := hideIt hcpB
  have hne1 : ¬ (i : Int) = (n : Int) := by omega
  have hne2 : decide ((i : Int) = (n : Int)) = false := decide_eq_false hne1
  have hb1 : (c : Int) < (N : Int) := by omega
  have hb2 : decide ((c : Int) < (N : Int)) = true := decide_eq_true hb1
  have hb3 : (k : Int) ≤ (N : Int) := by omega
  have hb4 : (i : Int) ≤ (N : Int) := by omega
  have hb5 : (i : Int) ≤ (n : Int) := by omega
  have hb6 : ¬ G = k := by omega
  have hb7 : ¬ G = i := by omega
  have hb10 : ¬ c = i := by omega
  have hb11 : (i : Int) ≤ (c : Int) := by omega
  have hb12 : i ≤ c := by omega
  have hb8 : k ≤ N := by omega
  have hb9 : i ≤ N := by omega
  have hcI : (c : Int) ≤ 9223372036854775807 := by unfold maxLen at hcm; omega
  have hGI : (G : Int) ≤ 9223372036854775807 := by unfold maxLen at hGm; omega
  have hw1 : IntKind.i64.wrap (k : Int) = (k : Int) := by rw [IntKind.wrap_i64]; omega
  have hw2 : IntKind.i64.wrap (N : Int) = (N : Int) := by rw [IntKind.wrap_i64]; omega
  have hw3 : IntKind.i64.wrap (d : Int) = (d : Int) := by rw [IntKind.wrap_i64]; omega
  clear hcpB hW1 hW2 hg1 hg2 hs1 htd hta hla hld hsz htk hg hx h hn HT hk hN hq hd hid hold hG hROW hRs hRt hM old1 old2 hi0 hz0 hz1 hz2
  go_enter Try.func60, Try.ntmps60
  go_wp2_with (first | (at_builtin; refine Lib.wpList_append_run _ rfl _ _ _ _ rfl _ _ rfl rfl _ _ (hrz _) ?_) | (at_builtin; refine wpList_copy_runI _ rfl _ _ 22 22 rfl _ _ rfl rfl (hcpA _ _) ?_))
  go_region_law (refine step_copy_runI rfl _ _ 22 22 rfl _ _ (by simp [Act.eval, Act.put]; rfl) (by simp [Act.eval, Act.put]; rfl) (HB3.out _ _ _) ?_)
  go_wp2
  go_ret
  exact HFN.out
end Go.Proofs.Ytecdjejemohkgaa.Rf
