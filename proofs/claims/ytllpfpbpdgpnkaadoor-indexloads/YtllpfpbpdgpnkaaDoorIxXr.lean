/- Indexes: new spots like these, sorted: walked. -/
import Derived.Test.YtllpfpbpdgpnkaaDoorIxXo
namespace Go.Proofs.YtllpfpbpdgpnkaaDoor.Ix
open Cb Go.RowKit Go.Shelf
theorem set2 (A R : List Value) (a b a' b' : Value) (n : Nat) (h : A.length = n) : (((A ++ a :: b :: R).toArray).setIfInBounds n a').setIfInBounds (n + 1) b' = (A ++ a' :: b' :: R).toArray := by
  subst h
  simp [List.setIfInBounds_toArray]
/-- Some spots, and as many empty ones as are wanted. -/
def rowS (l : List Sp) (i : Nat) : List Sp := l.take i ++ List.replicate (l.length - i) noSp
theorem rowS_end (l : List Sp) : rowS l l.length = l := by simp [rowS]
theorem rowS_len (l : List Sp) (i : Nat) (h : i ≤ l.length) : (rowS l i).length = l.length := by simp [rowS]; omega
theorem rowS_next {l : List Sp} {i : Nat} {x : Sp} (h : l[i]? = some x) : ((spsV (rowS l i)).toArray.setIfInBounds (i * 2) (.string x.d)).setIfInBounds (i * 2 + 1) (.int .i64 x.pl) = (spsV (rowS l (i + 1))).toArray := by
  obtain ⟨hi, rfl⟩ := List.getElem?_eq_some_iff.1 h
  have e0 : l.length - i = (l.length - (i + 1)) + 1 := by omega
  have e1 : spsV (rowS l i) = spsV (l.take i) ++ .string ⟨#[]⟩ :: .int .i64 0 :: spsV (List.replicate (l.length - (i + 1)) noSp) := by
    rw [rowS, e0, List.replicate_succ, spsV_append]
    rfl
  have e2 : spsV (rowS l (i + 1)) = spsV (l.take i) ++ .string l[i].d :: .int .i64 l[i].pl :: spsV (List.replicate (l.length - (i + 1)) noSp) := by
    rw [rowS, List.take_succ_eq_append_getElem hi, List.append_assoc, spsV_append]
    rfl
  rw [e1, e2]
  exact set2 _ _ _ _ _ _ _ (by rw [spsV_len]; simp; omega)
theorem made_spots (n : Nat) : madeCells #[Value.string ⟨#[]⟩, .int .i64 0] (n * 2) = (spsV (List.replicate n noSp)).toArray := by
  apply Array.ext_getElem?
  intro k
  by_cases h : k < n * 2
  · have hj : (List.replicate n noSp)[k / 2]? = some noSp := by rw [List.getElem?_replicate, if_pos (by omega)]
    obtain ⟨a, b⟩ := spsV_at _ _ _ hj
    have e : (madeCells #[Value.string ⟨#[]⟩, .int .i64 0] (n * 2))[k]? = some ((#[Value.string ⟨#[]⟩, .int .i64 0] : Array Value)[k % 2]!) := by
      simp only [madeCells, Array.getElem?_map]
      rw [Array.getElem?_range]
      simp only [h, if_true, Option.map_some]
      rfl
    rw [e, List.getElem?_toArray]
    rcases (by omega : k % 2 = 0 ∨ k % 2 = 1) with h0 | h0
    · rw [show k / 2 * 2 = k by omega] at a
      rw [a, h0]; rfl
    · rw [show k / 2 * 2 + 1 = k by omega] at b
      rw [b, h0]; rfl
  · rw [Array.getElem?_eq_none (by simp [size_madeCells]; omega), Array.getElem?_eq_none (by simp [spsV_len]; omega)]
theorem RowAt.put {w : World} {g i : Nat} {l : List Sp} {x : Sp} (h : RowAt w g (rowS l i)) (hx : l[i]? = some x) : RowAt ((w.setCell ⟨g, i * 2, none⟩ (.string x.d)).setCell ⟨g, i * 2 + 1, none⟩ (.int .i64 x.pl)) g (rowS l (i + 1)) := by
  unfold RowAt at h ⊢
  rw [heap_setCell_same _ g _ _ 38 _ (heap_setCell_same w g _ _ 38 _ h), rowS_next hx]
theorem RowAt.cell {w : World} {g i : Nat} {l : List Sp} {x : Sp} (h : RowAt w g l) (hx : l[i]? = some x) : w.cell? ⟨g, i * 2, none⟩ = some (.string x.d) ∧ w.cell? ⟨g, i * 2 + 1, none⟩ = some (.int .i64 x.pl) ∧ w.frozen? ⟨g, i * 2, none⟩ = false ∧ w.frozen? ⟨g, i * 2 + 1, none⟩ = false := by
  obtain ⟨a, b⟩ := spsV_at l i x hx
  exact ⟨cellAt h (by rw [List.getElem?_toArray]; exact a), cellAt h (by rw [List.getElem?_toArray]; exact b), Lib.frozen_of_heap h _, Lib.frozen_of_heap h _⟩
theorem RowAt.below {w w' : World} {g : Nat} {l : List Sp} (h : RowAt w g l) (hb : Below w.heap.size w w') : RowAt w' g l := by
  unfold RowAt at h ⊢
  rw [hb.block g (block_lt h), h]
theorem rowS_at (l : List Sp) (i : Nat) (h : i < l.length) : (rowS l i)[i]? = some noSp := by
  rw [rowS, List.getElem?_append_right (by simp; omega), List.getElem?_replicate, if_pos (by simp; omega)]
/-- What a call leaves of a variable and of the row. -/
theorem spot_after {V X w1 : World} {g k i : Nat} {l : List Sp} {x : Sp} (hX : X.heap = V.heap) (hb : Below X.heap.size X w1) (h1 : V.heap[k]? = some (.cells #[.string x.d, .int .i64 x.pl] 38 (0, 0))) (h2 : RowAt V g (rowS l i)) (hi : (rowS l i)[i]? = some noSp) :
    w1.cell? ⟨k, 0, none⟩ = some (.string x.d) ∧ w1.cell? ⟨k, 1, none⟩ = some (.int .i64 x.pl) ∧ RowAt w1 g (rowS l i) ∧ w1.cell? ⟨g, i * 2, none⟩ = some (.string ⟨#[]⟩) ∧ w1.cell? ⟨g, i * 2 + 1, none⟩ = some (.int .i64 0) ∧ w1.frozen? ⟨g, i * 2, none⟩ = false ∧ w1.frozen? ⟨g, i * 2 + 1, none⟩ = false := by
  have e1 : w1.heap[k]? = some (.cells #[.string x.d, .int .i64 x.pl] 38 (0, 0)) := by
    rw [hb.block k (by rw [hX]; exact block_lt h1), hX, h1]
  have e2 : RowAt w1 g (rowS l i) := by
    unfold RowAt at h2 ⊢
    rw [hb.block g (by rw [hX]; exact block_lt h2), hX, h2]
  obtain ⟨a, b, c, d⟩ := e2.cell hi
  exact ⟨cellAt e1 rfl, cellAt e1 rfl, e2, a, b, c, d⟩
theorem below_eq {w X V w1 : World} (h : Below w.heap.size w V) (hX : X = V.drew) (hb : Below X.heap.size X w1) : Below w.heap.size w w1 := by
  subst hX
  exact below2 h.drew hb
/-- What sorting leaves. -/
def SoTo (w : World) (l : List Sp) (e : Ending) (w' : World) : Prop := ∃ v m, e = .returned v ∧ SRow w' v m ∧ m.Perm l ∧ WUp m ∧ Below w.heap.size w w'
set_option maxHeartbeats 3200000 in
set_option maxRecDepth 100000 in
theorem sorted_any (v : Value) (l : List Sp) (w : World) (h : SRow w v l) (hn1 : l.length ≤ 1000000) (hs : ∀ x ∈ l, x.d.size ≤ 281474976710656) :
    Calls Tryd.prog 21 #[v] w fun e w' => SoTo w l e w' := by
  obtain ⟨i0, hi0, hz0, hz1, hz2⟩ := info_parts infoI
  obtain ⟨a, c, rfl, hlc, ⟨hcm, hnn⟩, hrow⟩ := h
  have HR := hideIt hrow
  have HT : Hid (∀ e w', SoTo w l e w' ↔ ∃ v m, e = .returned v ∧ SRow w' v m ∧ m.Perm l ∧ WUp m ∧ Below w.heap.size w w') := hideIt (fun _ _ => Iff.rfl)
  have HCL := hideIt (fun (i : Nat) (x : Sp) (hx : l[i]? = some x) w => clone_any x.d w (hs x (List.mem_of_getElem? hx)))
  have HSO := hideIt (fun (W : World) (hr : RowAt W w.heap.size l) => sort_any w.heap.size l.length w.heap.size l W hr (Nat.le_refl _) hn1)
  have HNX := hideIt (fun (W : World) (i : Nat) (x : Sp) (h1 : RowAt W w.heap.size (rowS l i)) (h2 : l[i]? = some x) => RowAt.put h1 h2)
  have HAT := hideIt (rowS_at l)
  have HEN := hideIt (rowS_end l)
  have HMK : Hid (RowAt (w.alloc (.cells (madeCells #[.string ⟨#[]⟩, .int .i64 0] (l.length * 2)) 38)) w.heap.size (rowS l 0)) := hideIt (by
    unfold RowAt
    rw [made_spots, rowS]
    simp only [List.take_zero, List.nil_append, Nat.sub_zero]
    exact alloc_at rfl)
  obtain ⟨n, hn⟩ : ∃ n, l.length = n := ⟨_, rfl⟩
  have HN := hideIt hn
  rw [hn] at hlc HR HSO HMK HAT HEN hn1 ⊢
  have hmk := run_make (P := Tryd.prog) w 22 38 i0 (.agg #[.string ⟨#[]⟩, .int .i64 0]) Tryd.underlying22 hi0 hz0 .i64 .i64 (n : Int) (n : Int) (by omega) (by omega) (by rw [hz2]; omega) (by omega)
  rw [hz1] at hmk
  simp only [Int.toNat_natCast] at hmk
  obtain ⟨W, hW⟩ : ∃ W, w.alloc (.cells (madeCells #[.string ⟨#[]⟩, .int .i64 0] (n * 2)) 38) = W := ⟨_, rfl⟩
  have hmk2 : (Instr.makeSlice 22 (.int .i64 (n : Int)) (.int .i64 (n : Int))).run Tryd.prog w = .ok (.slice (some ⟨w.heap.size, 0, none⟩) n n) W := by rw [← hW]; exact hmk
  have HBW : Hid (Below w.heap.size w W) := hideIt (by rw [← hW]; exact (Below.refl _ _).alloc (Nat.le_refl _) _)
  rw [hW] at HMK
  clear hmk hn hrow hnn hcm hW hs
  go_enter Tryd.func21, Tryd.ntmps21
  go_wp2
  go_loopw [11] (fun s11 wr => ∃ i : Nat, i ≤ n ∧ s11 = .int .i64 (i : Int) ∧ RowAt wr w.heap.size (rowS l i) ∧ Below w.heap.size w wr) (fun s11 _ => n - (intOf s11).toNat)
  case atStart => exact ⟨0, by omega, rfl, HMK.out, HBW.out⟩
  case round =>
    obtain ⟨i, hi, rfl, hr, hb⟩ := hrel
    have HB := hideIt hb
    have HRW := hideIt hr
    have hws : w.heap.size ≤ wr.heap.size := hb.size
    have hwlt : w.heap.size < wr.heap.size := block_lt hr
    clear hb hr
    by_cases hlt : i < n
    · have i1 : (i : Int) < (n : Int) := by omega
      have i2 : decide ((i : Int) < (n : Int)) = true := decide_eq_true i1
      obtain ⟨b, o, rfl, hcells⟩ := HR.out (by omega)
      obtain ⟨x, hxi⟩ : ∃ x, l[i]? = some x := ⟨l[i]'(by rw [HN.out]; exact hlt), by simp⟩
      obtain ⟨c0, c1⟩ := (hcells.below HB.out).2 i x hxi
      have HC1 := hideIt (HCL.out i x hxi)
      have HAI := hideIt (HAT.out i hlt)
      have HNI := hideIt (fun W h => HNX.out W i x h hxi)
      clear hxi hcells
      obtain ⟨V, hV⟩ : ∃ V, wr.alloc (.cells #[.string x.d, .int .i64 x.pl] 38) = V := ⟨_, rfl⟩
      have HVB : Hid (Below wr.heap.size wr V) := hideIt (by rw [← hV]; exact (Below.refl _ _).alloc (Nat.le_refl _) _)
      have HVX : Hid (V.heap[wr.heap.size]? = some (.cells #[.string x.d, .int .i64 x.pl] 38 (0, 0))) := hideIt (by rw [← hV]; exact alloc_at rfl)
      have v0 : V.cell? ⟨wr.heap.size, 0, none⟩ = some (.string x.d) := cellAt HVX.out rfl
      have v1 : V.cell? ⟨wr.heap.size, 1, none⟩ = some (.int .i64 x.pl) := cellAt HVX.out rfl
      have hVs : wr.heap.size < V.heap.size := block_lt HVX.out
      have HVR : Hid (RowAt V w.heap.size (rowS l i)) := hideIt (HRW.out.below HVB.out)
      have HVW : Hid (Below w.heap.size w V) := hideIt (below2 HB.out HVB.out)
      go_wp2
      go_region_with (go_at_call 23; refine (HC1.out _).mono ?_; rintro e w1 ⟨rfl, hb1⟩; obtain ⟨y0, y1, hy2, y3, y4, y5, y6⟩ := spot_after rfl hb1 HVX.out HVR.out HAI.out; have HY := hideIt (And.intro hy2 (below_eq HVW.out rfl hb1)); clear hy2)
      all_goals go_wp2
      all_goals go_roundw
      case rel => exact ⟨i + 1, by omega, by go_num, HNI.out _ HY.out.1, (HY.out.2.setCell (p := ⟨w.heap.size, i * 2, none⟩) (Nat.le_refl _) _).setCell (p := ⟨w.heap.size, i * 2 + 1, none⟩) (Nat.le_refl _) _⟩
      case measure => simp [intOf]; omega
      case rel => exact ⟨i + 1, by omega, by go_num, HNI.out _ HY.out.1, (HY.out.2.setCell (p := ⟨w.heap.size, i * 2, none⟩) (Nat.le_refl _) _).setCell (p := ⟨w.heap.size, i * 2 + 1, none⟩) (Nat.le_refl _) _⟩
      case measure => simp [intOf]; omega
      case rel => exact ⟨i + 1, by omega, by go_num, HNI.out _ HY.out.1, (HY.out.2.setCell (p := ⟨w.heap.size, i * 2, none⟩) (Nat.le_refl _) _).setCell (p := ⟨w.heap.size, i * 2 + 1, none⟩) (Nat.le_refl _) _⟩
      case measure => simp [intOf]; omega
    · have i2 : decide ((i : Int) < (n : Int)) = false := decide_eq_false (by omega)
      obtain rfl : i = n := by omega
      rw [HEN.out] at HRW
      have HS1 := hideIt (HSO.out wr HRW.out)
      go_wp2_with (first | (go_at_call 38; refine HS1.out.mono ?_; rintro e w2 ⟨rfl, m, hm1, hm2, hm3, hm4, hm5⟩; have HM := hideIt (And.intro hm1 (And.intro hm2 (And.intro hm3 (And.intro hm4 hm5)))); clear hm1 hm2 hm3 hm4 hm5))
      go_ret
      obtain ⟨hm1, hm2, hm3, hm4, hm5⟩ := HM.out
      rw [HN.out] at hm2
      refine (HT.out _ _).2 ⟨.slice (some ⟨w.heap.size, 0, none⟩) i i, m, rfl, ⟨some ⟨w.heap.size, 0, none⟩, i, by rw [hm2], by omega, ⟨by unfold maxLen; omega, fun h => by cases h⟩, fun _ => ⟨_, _, rfl, hm4⟩⟩, hm1, hm3, HB.out.trans hm5⟩
end Go.Proofs.YtllpfpbpdgpnkaaDoor.Ix
