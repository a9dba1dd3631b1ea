/- Chains: who waits; an item's bytes, out of its base's: walked. -/
import Derived.Test.YtdbbgpcjclmelaaGreatDoorChCn
namespace Go.Proofs.YtdbbgpcjclmelaaGreatDoor.Ch
open Cb Go.RowKit Go.Shelf Go.Maps
theorem zero3 (w : World) : (zeroValue 3).run Tryz.prog w = .ok (.int .i64 0) w := by
  obtain ⟨i0, hi0, hz0, _, _⟩ := info_parts infoZ
  simp [zeroValue, typeInfo, hi0, hz0]
def WaitAt (W0 W1 : World) (A : Ad) (its : List Im) : Prop := ∃ D : DataW Value, W0.ownsGroups Tryz.prog 9 W1.heap.size 3 .i64 A.b4 its.length D ∧ ∀ key : ByteArray, D.atKey (keyL key) .nil = dat (kids its key)
/-- What does not turn while the solver solves. -/
structure Cx (w W0 W1 : World) (A : Ad) (v : Value) (raws : List ByteArray) (its : List Im) (par : Nat → Option Nat) (dp : Nat → Nat) : Prop where
  ok : A.Ok w W1.heap.size
  le : W1.heap.size ≤ W0.heap.size
  bx : BoxAt A v raws.length W0
  rows : VRow 3 w v its.length (imsV its)
  fst : Fst raws par its
  dp0 : ∀ i, par i = none → dp i = 0
  dp1 : ∀ i k, par i = some k → dp i = dp k + 1
  sz : ∀ (i : Nat) (r : ByteArray), raws[i]? = some r → r.size ≤ 262208
  few : raws.length ≤ 2048
  ko : Ob.Ok w
  lk : ∀ (i : Nat) (r : ByteArray), raws[i]? = some r → ∀ X, Ob.Ok X → Calls Tryz.prog 60 #[.string r] X fun e w' => e = .returned (.tuple #[.slice none 0 0, .int .i64 0]) ∧ Below X.heap.size X w'
section
variable {w W0 W1 X Y : World} {A : Ad} {v : Value} {raws : List ByteArray} {its : List Im} {par : Nat → Option Nat} {dp : Nat → Nat} {dr ds df dm : List Nat}
theorem sm_start {n : Nat} (hn : raws.length = n) (h : NsAt w v n A W1) (hg : Gp w W1 A.b4 its n W0) : SM w W0 A raws its dp [] [] [] [] W0 ∧ BoxAt A v n W0 ∧ W1.heap.size ≤ W0.heap.size := by
  obtain ⟨D, hG, hD, hK, hS, hB⟩ := hg
  obtain ⟨n1, n2, n3, n4, n5, n6, n7, n8, n9, n10, n11, n12, n13, n14, n15⟩ := h.ok.nd
  obtain ⟨l1, l2, l3, l4, l5, l6⟩ := h.ok.lt
  subst hn
  have e1 := fill_made #[Value.string ⟨#[]⟩] raws.length (rawF raws)
  have e2 := fill_made #[Value.string ⟨#[]⟩, .int .i64 0] raws.length (spF raws its)
  have e3 := fill_made #[Value.int .i64 0] raws.length (farF dp)
  have z1 : ∀ (k : Nat) (F : Nat → Nat → Value) (Z Z' : Nat → Value), (∀ c, c < k → Z c = Z' c) → 0 < k → fillC k raws.length F Z [] = fillC k raws.length F Z' [] := fun k F Z Z' hz hk => by
    unfold fillC
    apply List.map_congr_left
    intro j _
    simp [hz (j % k) (Nat.mod_lt _ hk)]
  refine ⟨⟨?_, ?_, ?_, ⟨.map [], ⟨#[], 0, by rw [hK _ l5 (Ne.symm n13)]; exact h.m5, ⟨by simp, MapKept.stamped_empty 0, by simp⟩, Nat.le_refl _, rfl⟩, fun i r _ => by simp [Maps.has], fun i r hi => by simp at hi⟩, fun g _ _ _ _ _ => rfl, Nat.le_refl _, hB⟩, ?_, hS⟩
  · rw [hK _ l1 n3, h.r]
    rw [show (#[Value.string ⟨#[]⟩] : Array Value).size = 1 from rfl, Nat.mul_one] at e1
    rw [e1, z1 1 (rawF raws) _ zS (fun c hc => by
      obtain rfl : c = 0 := by omega
      rfl) (by omega)]
  · rw [hK _ l2 n7, h.s]
    rw [show (#[Value.string ⟨#[]⟩, .int .i64 0] : Array Value).size = 2 from rfl] at e2
    rw [e2, z1 2 (spF raws its) _ zSp (fun c hc => by rcases (by omega : c = 0 ∨ c = 1) with rfl | rfl <;> rfl) (by omega)]
  · rw [hK _ l3 n10, h.f]
    rw [show (#[Value.int .i64 0] : Array Value).size = 1 from rfl, Nat.mul_one] at e3
    rw [e3, z1 1 (farF dp) _ zN (fun c hc => by
      obtain rfl : c = 0 := by omega
      rfl) (by omega)]
  · unfold BoxAt
    rw [hK _ l6 (Ne.symm n14)]
    exact h.bx
/-- Who waits for a base. -/
theorem wait_get (hC : Cx w W0 W1 A v raws its par dp) (hW : WaitAt W0 W1 A its) (h : SM w W0 A raws its dp dr ds df dm X) (key : ByteArray) (hk : key.size ≤ 1000000) (q : Nat) : ∃ u, (Instr.lookup 67 (.map (some A.b4)) (.string key) false).run Tryz.prog (X.drewN q) = .ok u (X.drewN q) ∧ NRow X u (intsN (kids its key)) := by
  obtain ⟨n1, n2, n3, n4, n5, n6, n7, n8, n9, n10, n11, n12, n13, n14, n15⟩ := hC.ok.nd
  obtain ⟨l1, l2, l3, l4, l5, l6⟩ := hC.ok.lt
  obtain ⟨D, ⟨es, cl, hb, F, hs, hDe, hbb, hlen, hap⟩, hD⟩ := hW
  have hle := hC.le
  have hbX : ∀ q, (X.drewN q).heap[A.b4]? = some (.map es cl) := fun q => (h.k A.b4 (by omega) (Ne.symm n3) (Ne.symm n7) (Ne.symm n10) n13).trans hb
  have row : ∀ u zs, W0.ownsInts W1.heap.size 3 .i64 u zs → zs = intsN (kids its key) → NRow X u (intsN (kids its key)) := fun u zs hu hz => by
    subst hz
    have h1 := hu.1
    refine VRow.of_row (B := W1.heap.size) (t := 3) ⟨h1.1, ?_⟩
    rcases h1.2 with h0 | ⟨g, cap, cur, e, hg, hh, r⟩
    · exact .inl h0
    · exact .inr ⟨g, cap, cur, e, hg, (h.k g (block_lt hh) (by omega) (by omega) (by omega) (by omega)).trans hh, r⟩
  rcases Maps.fit_look false (Go.Maps.string_keyed Tryz.underlying9) Tryz.underlying67 (zeroIs (X.drewN q)) (hbX q) F (keyOfL key hk) with ⟨hrun, _, hat⟩ | ⟨e0, y, _, _, hrun, hR, hat, _⟩
  · refine ⟨.slice none 0 0, hrun, row _ [] (World.ownsInts_nil _ _ _ _) ?_⟩
    have h1 := hat .nil
    rw [← hDe, hD key] at h1
    exact row_is (w := W0) (World.ownsInts_nil W0 W1.heap.size 3 .i64) (h1.trans rfl)
  · obtain ⟨zs, ho, rfl⟩ := rowElem_inv hR
    have h1 := hat .nil
    rw [← hDe, hD key] at h1
    exact ⟨e0.val, hrun, row _ zs ho (row_is ho h1)⟩
theorem solved_get (h : SM w W0 A raws its dp dr ds df dm X) {k : Nat} {b : ByteArray} (hb : raws[k]? = some b) (hk : k ∈ dm) : ∀ q, (Instr.lookup 59 (.map (some A.b5)) (.string (shaB b)) false).run Tryz.prog (X.drewN q) = .ok (.int .i64 (k : Int)) (X.drewN q) := by
  obtain ⟨D, hD, _, h2⟩ := h.m
  intro q
  have hD' : (X.drewN q).ownsMap Tryz.prog 9 (plainElem (H := Value) Tryz.prog 3) A.b5 dm.length D := hD
  obtain ⟨c, hrun, hat, _⟩ := hD'.lookup_int (Go.Maps.string_keyed Tryz.underlying9) Tryz.underlying59 Tryz.underlying3 (zero3 _) (keyOfL (shaB b) (by rw [shaB_size]; omega))
  rw [h2 k b hk hb] at hat
  simp only [DataW.lit.injEq, Lit.int.injEq, true_and] at hat
  rw [hrun, hat]
theorem unsolved_get (h : SM w W0 A raws its dp dr ds df dm X) {i : Nat} {r : ByteArray} (hr : raws[i]? = some r) (hi : i ∉ dm) : (Instr.lookup 59 (.map (some A.b5)) (.string (shaB r)) true).run Tryz.prog X = .ok (.tuple #[.int .i64 0, .bool false]) X := by
  obtain ⟨D, ⟨es, cl, hb, F, _, hD⟩, h1, _⟩ := h.m
  rcases Maps.fit_look true (Go.Maps.string_keyed Tryz.underlying9) Tryz.underlying59 (zero3 X) hb F (keyOfL (shaB r) (by rw [shaB_size]; omega)) with ⟨hrun, _, _⟩ | ⟨e0, y, _, _, _, _, hat, _⟩
  · exact hrun
  · rw [← hD] at hat
    exact absurd ((h1 i r hr).1 (has_true_of_atKey hat)) hi
theorem solved_put (hA : A.Ok w W1.heap.size) (hF : Fst raws par its) (hn : dm.length ≤ 2048) (h : SM w W0 A raws its dp dr ds df dm X) {i : Nat} {r : ByteArray} (hr : raws[i]? = some r) (hi : i ≤ 2048) : ∃ Y, (Instr.mapUpdate 59 (.map (some A.b5)) (.string (shaB r)) (.int .i64 (i : Int))).run Tryz.prog X = .ok () Y ∧ SM w W0 A raws its dp dr ds df (dm ++ [i]) Y := by
  obtain ⟨D, hD, _, hY⟩ := h.id hA hF.apart hr
  have hwf : (Lit.int IntKind.i64 (i : Int)).wf = true := WalkArith.wf_i64 (by omega)
  have hval := plainElem_int (H := Value) Tryz.underlying3 hwf
  have hkey := keyOfL (shaB r) (by rw [shaB_size]; omega)
  have hn' : dm.length < maxLen := by unfold maxLen; omega
  obtain ⟨Y, hrun, r1, r2⟩ := hD.update (t := 59) (Go.Maps.string_keyed Tryz.underlying9) Tryz.underlying59 hn' hkey hval
  exact ⟨Y, hrun, hY Y r1 r2⟩
end
end Go.Proofs.YtdbbgpcjclmelaaGreatDoor.Ch
