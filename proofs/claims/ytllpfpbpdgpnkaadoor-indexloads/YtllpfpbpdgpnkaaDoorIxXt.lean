/- Indexes: a new one: walked. -/
import Derived.Test.YtllpfpbpdgpnkaaDoorIxXs
namespace Go.Proofs.YtllpfpbpdgpnkaaDoor.Ix
open Cb Go.RowKit Go.Shelf
/-- An index, as it lies in memory. -/
def ixA (pack : ByteArray) (m : List Sp) (v : Value) : Array Value := #[.string pack] ++ numsA (cnt m) ++ #[v]
def IxAt (w : World) (g : Nat) (pack : ByteArray) (m : List Sp) : Prop := ∃ v, w.heap[g]? = some (.cells (ixA pack m v) 56 (0, 0)) ∧ SRow w v m
theorem IxAt.below {w w' : World} {g : Nat} {pack : ByteArray} {m : List Sp} (h : IxAt w g pack m) (hb : Below w.heap.size w w') : IxAt w' g pack m := by
  obtain ⟨v, h1, h2⟩ := h
  exact ⟨v, by rw [hb.block g (block_lt h1), h1], h2.below hb⟩
theorem ixA_pack (pack : ByteArray) (m : List Sp) (v : Value) : (ixA pack m v)[0]? = some (.string pack) := by
  unfold ixA
  rw [Array.append_assoc, Array.getElem?_append_left (by simp)]
  rfl
theorem ixA_num (pack : ByteArray) (m : List Sp) (v : Value) (b : Nat) (h : b < 256) : (ixA pack m v)[1 + b]? = some (.int .i64 (cnt m b : Int)) := by
  unfold ixA
  rw [Array.append_assoc, Array.getElem?_append_right (by simp), Array.getElem?_append_left (by rw [numsA_size]; simp; omega)]
  rw [show 1 + b - (#[Value.string pack] : Array Value).size = b by simp, numsA_at _ _ h]
theorem ixA_row (pack : ByteArray) (m : List Sp) (v : Value) : (ixA pack m v)[257]? = some v := by
  unfold ixA
  rw [Array.append_assoc, Array.getElem?_append_right (by simp), Array.getElem?_append_right (by rw [numsA_size]; simp)]
  rw [numsA_size]
  have e : 257 - (#[Value.string pack] : Array Value).size - 256 = 0 := by simp
  rw [e]
  rfl
theorem fold_at (o : Nat) : ∀ (A : List Value) (s : Nat) (Z : Array Value) (k : Nat), o + s + A.length ≤ Z.size → ((A.zipIdx s).foldl (fun (cs : Array Value) x => cs.setIfInBounds (o + x.2) x.1) Z)[k]? = if o + s ≤ k ∧ k < o + s + A.length then A[k - (o + s)]? else Z[k]?
  | [], s, Z, k, _ => by
    simp
    omega
  | a :: A, s, Z, k, h => by
    have h' : o + (s + 1) + A.length ≤ (Z.setIfInBounds (o + s) a).size := by simp at h ⊢; omega
    rw [List.zipIdx_cons, List.foldl_cons, fold_at o A (s + 1) _ k h']
    by_cases h1 : o + (s + 1) ≤ k ∧ k < o + (s + 1) + A.length
    · rw [if_pos h1, if_pos (by simp; omega)]
      obtain ⟨j, hj⟩ : ∃ j, k - (o + s) = j + 1 := ⟨k - (o + s) - 1, by omega⟩
      rw [hj, List.getElem?_cons_succ, show k - (o + (s + 1)) = j by omega]
    · rw [if_neg h1, Array.getElem?_setIfInBounds]
      by_cases h2 : o + s = k
      · rw [if_pos h2, if_pos (by simp at h ⊢; omega), if_pos (by simp; omega), show k - (o + s) = 0 by omega]
        rfl
      · rw [if_neg h2, if_neg (by simp; omega)]
theorem zero56 : Tryd.zeroCells56.size = 258 := by kernel_rfl
theorem build_is (pack : ByteArray) (m : List Sp) (v : Value) : ((numsA (cnt m)).zipIdx.foldl (fun (cs : Array Value) x => cs.setIfInBounds (1 + x.2) x.1) (Tryd.zeroCells56.setIfInBounds 0 (.string pack))).setIfInBounds 257 v = ixA pack m v := by
  have hz := zero56
  generalize Tryd.zeroCells56 = Z at hz
  have hA := numsA_size (cnt m)
  have h0 := ixA_pack pack m v
  have h1 := ixA_num pack m v
  have h2 := ixA_row pack m v
  have h3 : (ixA pack m v).size = 258 := by unfold ixA; simp [numsA_size]
  have hat := numsA_at (cnt m)
  generalize numsA (cnt m) = A at hA hat
  generalize ixA pack m v = X at h0 h1 h2 h3
  have hf : (A.zipIdx.foldl (fun (cs : Array Value) x => cs.setIfInBounds (1 + x.2) x.1) (Z.setIfInBounds 0 (.string pack))) = (A.toList.zipIdx 0).foldl (fun (cs : Array Value) x => cs.setIfInBounds (1 + x.2) x.1) (Z.setIfInBounds 0 (.string pack)) := by
    rw [← Array.foldl_toList, Array.toList_zipIdx]
  have hs : ∀ (l : List (Value × Nat)) (Y : Array Value), (l.foldl (fun (cs : Array Value) x => cs.setIfInBounds (1 + x.2) x.1) Y).size = Y.size := by
    intro l
    induction l with
    | nil => intro Y; rfl
    | cons a r ih => intro Y; rw [List.foldl_cons, ih]; simp
  apply Array.ext_getElem?
  intro k
  rw [Array.getElem?_setIfInBounds, hf, hs]
  by_cases k1 : 257 = k
  · subst k1
    rw [if_pos rfl, if_pos (by simp [hz]), h2]
  · rw [if_neg k1, fold_at 1 A.toList 0 _ k (by simp [hA, hz])]
    by_cases k2 : 1 + 0 ≤ k ∧ k < 1 + 0 + A.toList.length
    · rw [if_pos k2]
      have hk : k - (1 + 0) < 256 := by have := k2.2; simp [hA] at this; omega
      have := h1 (k - (1 + 0)) hk
      rw [show 1 + (k - (1 + 0)) = k by omega] at this
      rw [this, Array.getElem?_toList, hat _ hk]
    · rw [if_neg k2, Array.getElem?_setIfInBounds]
      by_cases k3 : 0 = k
      · subst k3
        rw [if_pos rfl, if_pos (by omega), h0]
      · have : 258 ≤ k := by simp [hA] at k2; omega
        rw [if_neg k3, Array.getElem?_eq_none (by omega), Array.getElem?_eq_none (by omega)]
theorem fold_size (A : Array Value) (hA : A.size = 256) (Y : Array Value) (hY : Y.size = 258) : (Array.foldl (fun (cs : Array Value) x => cs.setIfInBounds (1 + x.2) x.1) Y A.zipIdx 0 256).size = 258 := by
  have hs : ∀ (l : List (Value × Nat)) (Y : Array Value), (l.foldl (fun (cs : Array Value) x => cs.setIfInBounds (1 + x.2) x.1) Y).size = Y.size := by
    intro l
    induction l with
    | nil => intro Y; rfl
    | cons a r ih => intro Y; rw [List.foldl_cons, ih]; simp
  have e : A.zipIdx.size = 256 := by simp [hA]
  rw [← e, ← Array.foldl_toList, hs, hY]
/-- What a new index is. -/
def NewTo (w : World) (pack : ByteArray) (m : List Sp) (e : Ending) (w' : World) : Prop := ∃ g, e = .returned (.tuple #[.pointer (some ⟨g, 0, none⟩), .int .i64 0]) ∧ IxAt w' g pack m ∧ Below w.heap.size w w'
theorem not_wrong {l m : List Sp} (h : srtF [] l = some m) : l.any wrong = false := by
  rw [List.any_eq_false]
  intro x hx
  rw [(srtF_some l [] m List.Pairwise.nil h).2.2 x hx]
  simp
theorem wrong_size {x : Sp} (h : wrong x = false) : x.d.size = 32 ∧ 0 ≤ x.pl ∧ x.pl ≤ 4194304 := by
  unfold wrong at h
  simp at h
  omega
set_option maxHeartbeats 1600000 in
set_option maxRecDepth 100000 in
theorem new_ok (pack : ByteArray) (v : Value) (l m : List Sp) (w : World) (h : SRow w v l) (hp : pack.size = 32) (hl : l.length ≤ 2048) (hm : srtF [] l = some m) :
    Calls Tryd.prog 8 #[.string pack, v] w fun e w' => NewTo w pack m e w' := by
  have HT : Hid (∀ e w', NewTo w pack m e w' ↔ ∃ g, e = .returned (.tuple #[.pointer (some ⟨g, 0, none⟩), .int .i64 0]) ∧ IxAt w' g pack m ∧ Below w.heap.size w w') := hideIt (fun _ _ => Iff.rfl)
  have hw := not_wrong hm
  have hwx : ∀ x ∈ l, wrong x = false := (srtF_some l [] m List.Pairwise.nil hm).2.2
  have HC := hideIt (containsFunc_any v l w h)
  rw [hw] at HC
  have HS := hideIt (fun w' (hb : Below w.heap.size w w') => sorted_any v l w' (h.below hb) (by omega) (fun x hx => by have := wrong_size (hwx x hx); omega))
  have HMM : Hid (∀ m2, m2.Perm l → WUp m2 → m2 = m ∧ twiceL m = false) := hideIt (fun m2 h1 h2 => by
    have := sorted_is hwx h1 h2
    rw [hm] at this
    cases ht : twiceL m2 with
    | true => rw [ht, if_pos rfl] at this; cases this
    | false =>
      rw [ht, if_neg (by simp)] at this
      cases this
      exact ⟨rfl, ht⟩)
  have hml : m.length = l.length := by have := (srtF_some l [] m List.Pairwise.nil hm).2.1.length_eq; simpa using this
  have hmw : ∀ x ∈ m, wrong x = false := fun x hx => hwx x ((srtF_some l [] m List.Pairwise.nil hm).2.1.mem_iff.1 hx)
  have HTW := hideIt (fun v w h => twice_any v m w h (by omega))
  have HCN := hideIt (fun v w h => count_any v m w h (by omega) (fun x hx => by have := wrong_size (hmw x hx); omega))
  have HCL := hideIt (fun w => clone_any pack w (by omega))
  have hp1 : (pack.size : Int) = 32 := by omega
  have hp2 : ((pack.size : Int) != 32) = false := by simpa using hp1
  have hp3 : ((pack.size : Int) == 32) = true := by simpa using hp1
  obtain ⟨a, c, rfl, hlc, ⟨hcm, hnn⟩, hrow⟩ := h
  obtain ⟨n, hn⟩ : ∃ n, l.length = n := ⟨_, rfl⟩
  rw [hn] at hlc HC HS hl ⊢
  have n1 : ¬ (2048 : Int) < (n : Int) := by omega
  have n2 : decide ((2048 : Int) < (n : Int)) = false := decide_eq_false n1
  have HBI := hideIt (build_is pack m)
  have HIA : Hid (∀ w g v, w.heap[g]? = some (.cells (ixA pack m v) 56 (0, 0)) → SRow w v m → IxAt w g pack m) := hideIt (fun w g v h1 h2 => ⟨v, h1, h2⟩)
  have hns := numsA_size (cnt m)
  generalize numsA (cnt m) = A at HCN HBI hns
  have hfs := fold_size A hns (Tryd.zeroCells56.setIfInBounds 0 (.string pack)) (by rw [Array.size_setIfInBounds]; exact zero56)
  have hfs2 : ¬ (Array.foldl (fun (cs : Array Value) x => cs.setIfInBounds (1 + x.2) x.1) (Tryd.zeroCells56.setIfInBounds 0 (.string pack)) A.zipIdx 0 256).size < 258 := by omega
  have HZI : Hid (A.zipIdx.size = 256) := hideIt (by simp [hns])
  clear hw hwx hm hml hmw hrow hnn hcm hn hp
  go_enter Tryd.func8, Tryd.ntmps8
  go_wp2_with (first
    | (go_at_call 19; refine HC.out.mono ?_; rintro e w1 ⟨rfl, hb1⟩; have B1 := hideIt hb1; clear hb1)
    | (go_at_call 21; refine (HS.out _ B1.out).mono ?_; rintro e w2 ⟨v2, m2, rfl, hr2, hp2', hu2, hb2⟩; obtain ⟨hm2, ht2⟩ := HMM.out m2 hp2' hu2; rw [hm2] at hr2; obtain ⟨a2, c2, rfl, ha2, hc2, hd2⟩ := id hr2; clear ha2 hc2 hd2; have R2 := hideIt hr2; have B2 := hideIt (below2 B1.out hb2); have T2 := hideIt (HTW.out _ w2 hr2); rw [ht2] at T2; clear hr2 hp2' hu2 hb2 hm2 ht2)
    | (go_at_call 22; refine T2.out.mono ?_; rintro e w3 ⟨rfl, hb3⟩; have R3 := hideIt (R2.out.below hb3); have B3 := hideIt (below2 B2.out hb3); clear hb3)
    | (go_at_call 23; refine (HCL.out _).mono ?_; rintro e w4 ⟨rfl, hb4⟩; have R4 := hideIt (R3.out.below hb4); have B4 := hideIt (below2 B3.out hb4); clear hb4)
    | (go_at_call 24; refine (HCN.out _ _ R4.out).mono ?_; rintro e w5 ⟨rfl, hb5⟩; have R5 := hideIt (R4.out.below hb5); have B5 := hideIt (below2 B4.out hb5); clear hb5))
  go_ret2
  refine (HT.out _ _).2 ⟨_, rfl, HIA.out _ _ _ ?_ (R5.out.below ((Below.refl _ _).alloc (Nat.le_refl _) _)), below2 B5.out ((Below.refl _ _).alloc (Nat.le_refl _) _)⟩
  rw [← HBI.out, HZI.out]
  exact alloc_at rfl
end Go.Proofs.YtllpfpbpdgpnkaaDoor.Ix
