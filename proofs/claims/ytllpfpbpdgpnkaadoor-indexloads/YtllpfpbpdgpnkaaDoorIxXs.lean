/- Indexes: how many ids begin with each byte or a lesser one: walked. -/
import Derived.Test.YtllpfpbpdgpnkaaDoorIxXr
import Derived.Test.YtllpfpbpdgpnkaaDoorSaOf
namespace Go.Proofs.YtllpfpbpdgpnkaaDoor.Ix
open Cb Go.RowKit Go.Shelf
open Sa (row_other)
/-- The byte with which an id begins. -/
def hd (x : Sp) : Nat := (x.d.data.toList.headD 0).toNat
theorem hd_lt (x : Sp) : hd x < 256 := UInt8.toNat_lt _
/-- How many ids begin with this byte; with it or a lesser one. -/
def eqs (m : List Sp) (b : Nat) : Nat := m.countP (fun x => decide (hd x = b))
def cnt (m : List Sp) (b : Nat) : Nat := m.countP (fun x => decide (hd x ≤ b))
theorem cnt_zero (m : List Sp) : cnt m 0 = eqs m 0 := by
  unfold cnt eqs
  congr 1
  funext x
  simp
theorem cnt_next : ∀ (m : List Sp) (b : Nat), eqs m (b + 1) + cnt m b = cnt m (b + 1)
  | [], b => rfl
  | x :: r, b => by
    have ih := cnt_next r b
    unfold cnt eqs at ih ⊢
    simp only [List.countP_cons]
    by_cases h1 : hd x ≤ b
    · simp [h1, show hd x ≤ b + 1 by omega, show ¬ hd x = b + 1 by omega]; omega
    · by_cases h2 : hd x = b + 1
      · have h3 : ¬ b + 1 ≤ b := by omega
        simp [h2, h3]; omega
      · simp [h1, h2, show ¬ hd x ≤ b + 1 by omega]; omega
theorem cnt_le (m : List Sp) (b : Nat) : cnt m b ≤ m.length := List.countP_le_length
theorem eqs_le (m : List Sp) (b : Nat) : eqs m b ≤ m.length := List.countP_le_length
theorem eqs_snoc (m : List Sp) (x : Sp) (b : Nat) : eqs (m ++ [x]) b = eqs m b + if b = hd x then 1 else 0 := by
  unfold eqs
  rw [List.countP_append]
  by_cases h : b = hd x
  · simp [h]
  · have h2 : ¬ hd x = b := fun e => h e.symm
    simp [h, h2]
/-- A row of 256 numbers. -/
def numsL (f : Nat → Nat) : List Value := (List.range 256).map fun b => Value.int .i64 (f b : Int)
def numsA (f : Nat → Nat) : Array Value := (numsL f).toArray
theorem numsA_at (f : Nat → Nat) (b : Nat) (h : b < 256) : (numsA f)[b]? = some (.int .i64 (f b : Int)) := by simp [numsA, numsL, h]
theorem numsA_set (f : Nat → Nat) (i v : Nat) : (numsA f).setIfInBounds i (.int .i64 (v : Int)) = numsA (fun b => if b = i then v else f b) := by
  apply Array.ext_getElem?
  intro k
  rw [Array.getElem?_setIfInBounds]
  simp only [numsA, numsL]
  by_cases hk : i = k
  · subst hk
    by_cases hi : i < 256 <;> simp [hi]
  · by_cases hi : k < 256 <;> simp [hi, hk]
    rw [if_neg (fun h => hk h.symm)]
theorem numsA_congr {f g : Nat → Nat} (h : ∀ b, b < 256 → f b = g b) : numsA f = numsA g := by
  unfold numsA numsL
  congr 1
  apply List.map_congr_left
  intro b hb
  rw [h b (List.mem_range.1 hb)]
def NumsAt (w : World) (g : Nat) (f : Nat → Nat) : Prop := w.heap[g]? = some (.cells (numsA f) 53 (0, 0))
theorem NumsAt.put {w : World} {g i v : Nat} {f : Nat → Nat} (h : NumsAt w g f) : NumsAt (w.setCell ⟨g, i, none⟩ (.int .i64 (v : Int))) g (fun b => if b = i then v else f b) := by
  unfold NumsAt at h ⊢
  rw [heap_setCell_same _ g _ _ 53 _ h, numsA_set]
theorem NumsAt.cell {w : World} {g i : Nat} {f : Nat → Nat} (h : NumsAt w g f) (hi : i < 256) : w.cell? ⟨g, i, none⟩ = some (.int .i64 (f i : Int)) ∧ w.frozen? ⟨g, i, none⟩ = false :=
  ⟨cellAt h (numsA_at f i hi), Lib.frozen_of_heap h _⟩
theorem NumsAt.congr {w : World} {g : Nat} {f f' : Nat → Nat} (h : NumsAt w g f) (hf : ∀ b, b < 256 → f b = f' b) : NumsAt w g f' := by
  unfold NumsAt at h ⊢
  rw [h, numsA_congr hf]
theorem numsA_size (f : Nat → Nat) : (numsA f).size = 256 := by simp [numsA, numsL]
theorem nums_zeros : numsA (fun _ => 0) = (List.replicate 256 (Value.int .i64 0)).toArray := by
  apply Array.ext_getElem?
  intro k
  by_cases h : k < 256
  · rw [numsA_at _ _ h, List.getElem?_toArray, List.getElem?_replicate, if_pos h]; rfl
  · rw [Array.getElem?_eq_none (by rw [numsA_size]; omega), Array.getElem?_eq_none (by rw [List.size_toArray, List.length_replicate]; omega)]
theorem infoN : Tryd.t53.zero = some (.agg (List.replicate 256 (Value.int .i64 0)).toArray) := by kernel_rfl
theorem zero_nums (w : World) : Sem.run Tryd.prog (zeroValue 53) w = .ok (.agg (numsA fun _ => 0)) w := by
  have h := infoN
  rw [← nums_zeros] at h
  generalize numsA (fun _ => 0) = Z at h ⊢
  simp [zeroValue, h]
theorem infoNS (f : Nat → Nat) : (Tryd.prog.info? 53).map (·.size) = some (numsA f).size := by rw [numsA_size]; kernel_rfl
theorem nums_all (f : Nat → Nat) : (numsA f).all (·.oneCell') = true := Array.all_eq_true_iff_forall_mem.2 (fun v hv => by
  simp [numsA, numsL] at hv
  obtain ⟨_, _, rfl⟩ := hv
  rfl)
/-- The two rows of numbers, as the counting keeps them. -/
structure CMem (w : World) (f : Nat → Nat) (X : World) : Prop where
  res : NumsAt X w.heap.size (fun _ => 0)
  row : NumsAt X (w.heap.size + 1) f
  below : Below w.heap.size w X
theorem CMem.alloc {w X : World} {f : Nat → Nat} (h : CMem w f X) (o : Obj) : CMem w f (X.alloc o) := by
  obtain ⟨h1, h2, h3⟩ := h
  refine ⟨?_, ?_, h3.alloc h3.size _⟩
  · unfold NumsAt at h1 ⊢
    rw [Below.heap_alloc _ _ _ (block_lt h1), h1]
  · unfold NumsAt at h2 ⊢
    rw [Below.heap_alloc _ _ _ (block_lt h2), h2]
theorem CMem.put {w X : World} {f f' : Nat → Nat} {i v : Nat} (h : CMem w f X) (hf : ∀ b, b < 256 → (if b = i then v else f b) = f' b) : CMem w f' (X.setCell ⟨w.heap.size + 1, i, none⟩ (.int .i64 (v : Int))) := by
  obtain ⟨h1, h2, h3⟩ := h
  refine ⟨?_, h2.put.congr hf, h3.setCell (p := ⟨w.heap.size + 1, i, none⟩) (by simp) _⟩
  unfold NumsAt at h1 ⊢
  rw [row_other _ (by omega), h1]
theorem CMem.drew {w X : World} {f : Nat → Nat} (h : CMem w f X) : CMem w f X.drew := ⟨h.res, h.row, h.below.drew⟩
theorem CMem.drewN {w X : World} {f : Nat → Nat} (h : CMem w f X) (q : Nat) : CMem w f (X.drewN q) := ⟨h.res, h.row, below2 h.below (below_drewN _ _)⟩
theorem hd_is {x : Sp} (h : 0 < x.d.size) : hd x = (x.d[0]'h).toNat := by
  obtain ⟨d, pl⟩ := x
  obtain ⟨⟨l⟩⟩ := d
  cases l with
  | nil => simp [ByteArray.size] at h
  | cons a r => rfl
set_option maxHeartbeats 3200000 in
set_option maxRecDepth 100000 in
theorem count_any (v : Value) (l : List Sp) (w : World) (h : SRow w v l) (hn1 : l.length ≤ 1000000) (hs : ∀ x ∈ l, 0 < x.d.size) :
    Calls Tryd.prog 24 #[v] w fun e w' => e = .returned (.agg (numsA (cnt l))) ∧ Below w.heap.size w w' := by
  obtain ⟨a, c, rfl, hlc, ⟨hcm, hnn⟩, hrow⟩ := h
  have HR := hideIt hrow
  have HSZ := hideIt (fun (i : Nat) (x : Sp) (hx : l[i]? = some x) => hs x (List.mem_of_getElem? hx))
  have HEL := hideIt (eqs_le l)
  have HCL := hideIt (cnt_le l)
  obtain ⟨n, hn⟩ : ∃ n, l.length = n := ⟨_, rfl⟩
  have HN := hideIt hn
  rw [hn] at hlc HR hn1 HEL HCL ⊢
  obtain ⟨Z, hZ⟩ : ∃ Z, numsA (fun _ => 0) = Z := ⟨_, rfl⟩
  have hz := zero_nums
  rw [hZ] at hz
  have HM0 : Hid (CMem w (eqs (l.take 0)) ((w.alloc (.cells Z 53)).alloc (.cells Z 53))) := hideIt (by
    have e : numsA (eqs (l.take 0)) = Z := by rw [← hZ]; exact numsA_congr (fun b _ => rfl)
    refine ⟨?_, ?_, ((Below.refl _ w).alloc (Nat.le_refl _) _).alloc (by simp) _⟩
    · unfold NumsAt
      rw [Below.heap_alloc _ _ _ (by simp), hZ]
      exact alloc_at rfl
    · unfold NumsAt
      rw [e]
      exact alloc_at (by simp))
  clear hn hrow hnn hcm hs hZ
  go_enter Tryd.func24, Tryd.ntmps24
  go_wp2
  go_loopw [9] (fun s9 wr => ∃ i : Nat, i ≤ n ∧ s9 = .int .i64 (i : Int) ∧ CMem w (eqs (l.take i)) wr) (fun s9 _ => n - (intOf s9).toNat)
  case atStart => exact ⟨0, by omega, rfl, HM0.out⟩
  case round =>
    obtain ⟨i, hi, rfl, hm⟩ := hrel
    by_cases hlt : i < n
    · have i1 : (i : Int) < (n : Int) := by omega
      have i2 : decide ((i : Int) < (n : Int)) = true := decide_eq_true i1
      obtain ⟨b, o, rfl, hcells⟩ := HR.out (by omega)
      obtain ⟨x, hxi⟩ : ∃ x, l[i]? = some x := ⟨l[i]'(by rw [HN.out]; exact hlt), by simp⟩
      obtain ⟨c0, c1⟩ := (hcells.below hm.below).2 i x hxi
      have h0 := HSZ.out i x hxi
      have hh := hd_is h0
      have HHL := hideIt (hd_lt x)
      have HSN : Hid (∀ b, eqs (l.take (i + 1)) b = eqs (l.take i) b + if b = hd x then 1 else 0) := hideIt (fun b => by
        rw [List.take_succ_eq_append_getElem (by rw [HN.out]; exact hlt), show l[i]'(by rw [HN.out]; exact hlt) = x from by have := (List.getElem?_eq_some_iff.1 hxi).2; exact this, eqs_snoc])
      obtain ⟨d, pl⟩ := x
      simp only at c0 c1 h0 hh
      have i0 : (0 : Int) < (d.size : Int) := by omega
      obtain ⟨u, hu⟩ : ∃ u, d[0]'h0 = u := ⟨_, rfl⟩
      have HK : Hid (eqs (l.take i) u.toNat ≤ 1000000) := hideIt (by have := eqs_le (l.take i) u.toNat; simp at this; omega)
      rw [hu] at hh
      obtain ⟨V, hV⟩ : ∃ V, wr.alloc (.cells #[.string d, .int .i64 pl] 38) = V := ⟨_, rfl⟩
      have HMV : Hid (CMem w (eqs (l.take i)) V) := hideIt (by rw [← hV]; exact hm.alloc _)
      have v0 : V.cell? ⟨wr.heap.size, 0, none⟩ = some (.string d) := cellAt (by rw [← hV]; exact alloc_at rfl) rfl
      obtain ⟨y0, y1⟩ := HMV.out.row.cell (i := u.toNat) (by rw [← hh]; exact HHL.out)
      have HPU := hideIt (fun v hv => HMV.out.put (f' := eqs (l.take (i + 1))) (i := u.toNat) (v := v) hv)
      have HSN2 : Hid (∀ b, b < 256 → (if b = u.toNat then eqs (l.take i) u.toNat + 1 else eqs (l.take i) b) = eqs (l.take (i + 1)) b) := hideIt (fun b _ => by
        rw [HSN.out b, hh]
        by_cases e : b = u.toNat
        · rw [if_pos e, if_pos e, e]
        · rw [if_neg e, if_neg e]; rfl)
      generalize eqs (l.take i) u.toNat = k at y0 HK HSN2
      obtain ⟨k2, hk2⟩ : ∃ k2, k + 1 = k2 := ⟨_, rfl⟩
      have hk3 : (k : Int) + 1 = (k2 : Int) := by omega
      have hk4 : (k2 : Int) ≤ 1000001 := by have := HK.out; omega
      have hu8 := u.toNat_lt
      have u2 : (u.toNat : Int) < 256 := by omega
      rw [hk2] at HSN2
      clear hxi hcells hm hh hk2
      go_wp2
      go_roundw
      case rel => exact ⟨i + 1, by omega, by go_num, HPU.out k2 HSN2.out⟩
      case measure => simp [intOf]; omega
    · have i2 : decide ((i : Int) < (n : Int)) = false := decide_eq_false (by omega)
      obtain rfl : i = n := by omega
      have e0 : l.take i = l := List.take_of_length_le (by rw [HN.out]; omega)
      rw [e0] at hm
      have HM1 : Hid (CMem w (fun b => if b < 1 then cnt l b else eqs l b) wr) := hideIt ⟨hm.res, hm.row.congr (fun b _ => by
        by_cases hb : b < 1
        · obtain rfl : b = 0 := by omega
          rw [if_pos hb, cnt_zero]
        · rw [if_neg hb]), hm.below⟩
      clear hm e0
      go_wp2
      go_loopw [6] (fun s6 wr => ∃ j : Nat, 1 ≤ j ∧ j ≤ 256 ∧ s6 = .int .i64 (j : Int) ∧ CMem w (fun b => if b < j then cnt l b else eqs l b) wr) (fun s6 _ => 256 - (intOf s6).toNat)
      case atStart => exact ⟨1, by omega, by omega, rfl, HM1.out⟩
      case round =>
        obtain ⟨j, hj1, hj, rfl, hm⟩ := hrel
        by_cases hlt2 : j < 256
        · have j1 : (j : Int) < 256 := by omega
          have j2 : decide ((j : Int) < 256) = true := decide_eq_true j1
          obtain ⟨p, hp⟩ : ∃ p, j = p + 1 := ⟨j - 1, by omega⟩
          have p1 : (j : Int) - 1 = (p : Int) := by omega
          have p2 : (p : Int) < 256 := by omega
          obtain ⟨y0, y1⟩ := hm.row.cell (i := j) hlt2
          obtain ⟨z0, z1⟩ := hm.row.cell (i := p) (by omega)
          rw [if_neg (by omega)] at y0
          rw [if_pos (by omega)] at z0
          have HNX : Hid (eqs l j + cnt l p = cnt l j) := hideIt (by rw [hp]; exact cnt_next l p)
          have HPU := hideIt (fun v hv => (hm.put (f' := fun b => if b < j + 1 then cnt l b else eqs l b) (i := j) (v := v) hv))
          have HPD := hideIt (fun v hv => (hm.drew.put (f' := fun b => if b < j + 1 then cnt l b else eqs l b) (i := j) (v := v) hv))
          have HV : Hid (∀ b, b < 256 → (if b = j then cnt l j else if b < j then cnt l b else eqs l b) = if b < j + 1 then cnt l b else eqs l b) := hideIt (fun b _ => by
            by_cases e : b = j
            · subst e; simp
            · rw [if_neg e]
              by_cases e2 : b < j
              · rw [if_pos e2, if_pos (by omega)]
              · rw [if_neg e2, if_neg (by omega)])
          have b1 := HEL.out j
          have b2 := HCL.out p
          obtain ⟨q, hq⟩ : ∃ q, cnt l j = q := ⟨_, rfl⟩
          rw [hq] at HNX HV
          generalize eqs l j = k1 at y0 HNX b1
          generalize cnt l p = k2 at z0 HNX b2
          have q1 : (k1 : Int) + (k2 : Int) = (q : Int) := by have := HNX.out; omega
          have q2 : (q : Int) ≤ 2000000 := by omega
          clear hm hp hq b1 b2
          go_wp2
          go_region
          go_wp2
          go_roundw
          case rel => exact ⟨j + 1, by omega, by omega, by go_num, by first | exact HPD.out q HV.out | exact HPU.out q HV.out⟩
          case measure => simp [intOf]; omega
        · have j2 : decide ((j : Int) < 256) = false := decide_eq_false (by omega)
          obtain rfl : j = 256 := by omega
          have HP : Hid (wr.heap[w.heap.size + 1]? = some (.cells (numsA (cnt l)) 53 (0, 0))) := hideIt (hm.row.congr (fun b hb => by rw [if_pos hb]))
          have HRS : Hid (wr.heap[w.heap.size]? = some (.cells (numsA fun _ => 0) 53 (0, 0))) := hideIt hm.res
          have HB := hideIt hm.below
          clear hm
          go_wp2_with (first | (refine wpList_load_row rfl 53 _ rfl _ rfl _ _ _ _ HP.out Tryd.underlying53 rfl (infoNS _) ?_) | (refine wpList_store_row rfl 53 _ _ rfl _ _ rfl rfl _ _ HRS.out (infoNS _) (by rw [numsA_size, numsA_size]) (nums_all _) ?_))
          refine bodyPost_ret (v := .agg (numsA (cnt l))) (results_cell_row Tryd.results24 _ _ w.heap.size 53 _ (0, 0) _ rfl (setRow_heap _ _ _ _ _ _ HRS.out) Tryd.underlying53 rfl (infoNS _)) rfl ⟨rfl, ?_⟩
          exact below_setRow HB.out (Nat.le_refl _) _
end Go.Proofs.YtllpfpbpdgpnkaaDoor.Ix
