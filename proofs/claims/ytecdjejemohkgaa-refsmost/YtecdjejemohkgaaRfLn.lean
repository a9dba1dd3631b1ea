/- Refs: the law RefsMost: walked. -/
import Derived.Test.YtecdjejemohkgaaRfLm
namespace Go.Proofs.Ytecdjejemohkgaa.Rf
open Cb Go.RowKit Go.Shelf
theorem i64_and3 (n : Int) : bits .and .i64 n 3 = n % 4 := by
  have h3 : (BitVec.ofInt 64 3).toNat = 2 ^ 2 - 1 := by decide
  have key : (BitVec.ofInt 64 n &&& BitVec.ofInt 64 3).toNat = (n % ((2 ^ 64 : Nat) : Int)).toNat % 2 ^ 2 := by
    rw [BitVec.toNat_and, BitVec.toNat_ofInt, h3, Nat.and_two_pow_sub_one_eq_mod]
  show IntKind.i64.wrap ((BitVec.ofInt 64 n &&& BitVec.ofInt 64 3).toNat : Nat) = n % 4
  rw [key, IntKind.wrap_i64]
  omega
theorem two_convA (a b : Nat) (ha : a < 256) (hb : b < 256) (v1 : World) (g : Nat) (hrow : v1.heap[g]? = some (.cells #[.int .u8 (a : Int), .int .u8 (b : Int)] 5 (0, 0))) : (convert 56 9 (.slice (some ⟨g, 0, none⟩) 2 2)).run Try.prog v1 = .ok (.string (Cb.bs [UInt8.ofNat a, UInt8.ofNat b])) v1 := by
  refine Cb.run_row [UInt8.ofNat a, UInt8.ofNat b] v1 g 5 ?_ 2
  rw [hrow]
  simp [Cb.rowA, Cb.u8s]
  omega
theorem one_convA (a : Nat) (ha : a < 256) (v1 : World) (g : Nat) (hrow : v1.heap[g]? = some (.cells #[.int .u8 (a : Int)] 5 (0, 0))) : (convert 56 9 (.slice (some ⟨g, 0, none⟩) 1 1)).run Try.prog v1 = .ok (.string (Cb.bs [UInt8.ofNat a])) v1 := by
  refine Cb.run_row [UInt8.ofNat a] v1 g 5 ?_ 1
  rw [hrow]
  simp [Cb.rowA, Cb.u8s]
  omega
/-- Refs that the law lays, in a box. -/
structure LM (w0 : World) (m : List Rf) (v : Value) (w : World) : Prop where
  bel : Below w0.heap.size w0 w
  hi : w0.heap.size < w.heap.size
  box : w.heap[w0.heap.size]? = some (.cells #[.string mainS, v] 24 (0, 0))
  row : w.ownsRow (w0.heap.size + 1) 59 2 v m.length (rfsV m)
theorem LM.below {w0 w w' : World} {m : List Rf} {v : Value} (h : LM w0 m v w) (hb : Below w.heap.size w w') : LM w0 m v w' :=
  ⟨below_step h.bel (Nat.le_refl _) hb, Nat.lt_of_lt_of_le h.hi hb.size, (hb.block _ h.hi).trans h.box, own_below h.row hb⟩
theorem LM.row_n {w0 w X : World} {n : Nat} {m : List Rf} {v : Value} (h : LM w0 m v w) (hn : m.length = n) (hX : Below w.heap.size w X) : X.ownsRow (w0.heap.size + 1) 59 2 v n (rfsV m) := by
  subst hn
  exact own_below h.row hX
theorem LM.append {w0 w X w3 : World} {n : Nat} {m : List Rf} {v v3 : Value} (h : LM w0 m v w) (hn : m.length = n) (x : Rf) (hX : Below w.heap.size w X) (hg : X.grownBy w3 v.ownBlock) (hown : w3.ownsRow (w0.heap.size + 1) 59 2 v3 (n + 1) (rfsV m ++ rfV x)) :
    (w3.cell? ⟨w0.heap.size, 1, none⟩ = some v ∧ w3.frozen? ⟨w0.heap.size, 1, none⟩ = false) ∧ LM w0 (m ++ [x]) v3 (w3.setCell ⟨w0.heap.size, 1, none⟩ v3) := by
  subst hn
  have hge := row_ge h.row
  have hh := h.hi
  have hs := hX.size
  have b1 : w3.heap[w0.heap.size]? = some (.cells #[.string mainS, v] 24 (0, 0)) := by
    rw [hg.block _ (by omega) (fun e => by have := hge _ e.symm; omega), hX.block _ hh]
    exact h.box
  have hbel : Below w0.heap.size w0 w3 := Below.grown (below_step h.bel (Nat.le_refl _) hX) hg (by omega) (fun k hk => by have := hge k hk; omega)
  refine ⟨⟨cellAt b1 rfl, frz b1 1⟩, ⟨hbel.setCell (p := ⟨w0.heap.size, 1, none⟩) (Nat.le_refl _) _, ?_, ?_, ?_⟩⟩
  · have := hg.size; simp [World.setCell] at *; omega
  · rw [heap_setCell_same w3 _ 1 _ 24 _ b1]
    rfl
  · have e : rfsV (m ++ [x]) = rfsV m ++ rfV x := by rw [rfsV_append]; simp [rfsV]
    rw [e, List.length_append]
    exact own_other hown ⟨w0.heap.size, 1, none⟩ (by show w0.heap.size < _; omega) _
theorem one_refX (a b : ByteArray) (X : World) (g : Nat) (hX : X.heap[g]? = some (.cells #[.string a, .string b] 59 (0, 0))) (j : Nat) (u : Value) (h : (rfV ⟨a, b⟩)[j]? = some u) : X.cell? ((⟨g, 0, none⟩ : Addr).add j) = some u := by
  rw [Addr.add_lit, Nat.zero_add]
  match j, h with
  | 0, h => exact cellAt hX (by simpa [rfV] using h)
  | 1, h => exact cellAt hX (by simpa [rfV] using h)
  | j + 2, h => simp [rfV] at h
theorem one_upX (a b : ByteArray) (X : World) (g : Nat) (hX : X.heap[g]? = some (.cells #[.string a, .string ⟨#[]⟩, .string b, .bool false] 34 (0, 0))) (j : Nat) (u : Value) (h : (upV ⟨a, ⟨#[]⟩, b, false⟩)[j]? = some u) : X.cell? ((⟨g, 0, none⟩ : Addr).add j) = some u := by
  rw [Addr.add_lit, Nat.zero_add]
  exact cellAt hX (by simpa [upV] using h)
set_option maxHeartbeats 6400000 in
set_option maxRecDepth 100000 in
theorem most_law (n : Int) (w : World) : Calls Try.prog 5 #[.int .i64 n] w fun e w' => e = .returned (.bool true) ∧ Below w.heap.size w w' := by
  obtain ⟨i0, hi0, hz0, hz1, hz2⟩ := info_parts infoRf
  have hand := i64_and3 n
  obtain ⟨k, hk⟩ : ∃ k : Nat, n % 4 = (k : Int) := ⟨(n % 4).toNat, by omega⟩
  rw [hk] at hand
  have hk4 : k < 4 := by omega
  have HI1 : Hid (∀ w, Calls Try.prog 21 #[.int .u8 120] w fun e w' => e = .returned (.string (idS 120)) ∧ Below w.heap.size w w') := hideIt (fun w => id_any 120 w)
  have HI2 : Hid (∀ w, Calls Try.prog 21 #[.int .u8 121] w fun e w' => e = .returned (.string (idS 121)) ∧ Below w.heap.size w w') := hideIt (fun w => id_any 121 w)
  have HM0 : Hid (LM w [] (.slice none 0 0) (w.alloc (.cells #[.string mainS, .slice none 0 0] 24))) := hideIt ⟨new_below w _, by simp, alloc_at rfl, by simpa [rfsV] using own_nil _ _ _ _⟩
  obtain ⟨IX, hIX⟩ : ∃ I, idS 120 = I := ⟨_, rfl⟩
  obtain ⟨IY, hIY⟩ : ∃ I, idS 121 = I := ⟨_, rfl⟩
  have HIX := hideIt hIX
  have HIY := hideIt hIY
  rw [hIX] at HI1
  rw [hIY] at HI2
  clear hk hIX hIY
  go_enter Try.func5, Try.ntmps5
  go_wp2
  go_loopw [5] (fun t wr => ∃ (i : Nat) (v : Value), i ≤ 255 ∧ t = .int .i64 (i : Int) ∧ LM w (tagL i) v wr) (fun t _ => 255 - (intOf t).toNat)
  case atStart => exact ⟨0, _, by omega, rfl, HM0.out⟩
  case round =>
    obtain ⟨i, v, hi, rfl, lm⟩ := hrel
    have HLM := hideIt lm
    obtain ⟨sa, sc, hv⟩ := own_slice lm.row
    rw [tagL_len] at hv
    subst hv
    clear lm
    by_cases hlt : i < 255
    · have i0' : (0 : Int) ≤ (i : Int) := by omega
      have i1 : (i : Int) < 255 := by omega
      have i2 : decide ((i : Int) < 255) = true := decide_eq_true i1
      obtain ⟨p, hp⟩ : ∃ p, i / 26 = p := ⟨_, rfl⟩
      obtain ⟨r, hr⟩ : ∃ r, i % 26 = r := ⟨_, rfl⟩
      obtain ⟨a, ha⟩ : ∃ a, 97 + p = a := ⟨_, rfl⟩
      obtain ⟨b, hb⟩ : ∃ b, 97 + r = b := ⟨_, rfl⟩
      have d1 : (i : Int) / 26 = (p : Int) := by omega
      have d2 : (i : Int).tmod 26 = (r : Int) := by rw [← hr, Int.tmod_eq_emod_of_nonneg (by omega)]; omega
      have d3 : (i : Int).tdiv 26 = (p : Int) := by rw [Int.tdiv_eq_ediv_of_nonneg (by omega)]; exact d1
      have e1 : IntKind.i64.wrap (p : Int) = (p : Int) := by rw [IntKind.wrap_i64]; omega
      have e2 : IntKind.u8.wrap (p : Int) = (p : Int) := by rw [IntKind.wrap_u8]; omega
      have e3 : (97 : Int) + (p : Int) = (a : Int) := by omega
      have e4 : IntKind.u8.wrap (a : Int) = (a : Int) := by rw [IntKind.wrap_u8]; omega
      have e5 : IntKind.u8.wrap (r : Int) = (r : Int) := by rw [IntKind.wrap_u8]; omega
      have e6 : (97 : Int) + (r : Int) = (b : Int) := by omega
      have e7 : IntKind.u8.wrap (b : Int) = (b : Int) := by rw [IntKind.wrap_u8]; omega
      have e8 : IntKind.i64.wrap (r : Int) = (r : Int) := by rw [IntKind.wrap_i64]; omega
      have ha2 : a < 256 := by omega
      have hb2 : b < 256 := by omega
      obtain ⟨NM, hNM⟩ : ∃ NM, Cb.bs [UInt8.ofNat a, UInt8.ofNat b] = NM := ⟨_, rfl⟩
      have hNs : NM.size ≤ 2 := by rw [← hNM, Cb.bs_size]; simp
      have s5 : ¬ 9223372036854775807 < 5 + NM.size := by omega
      obtain ⟨TT, hTT⟩ : ∃ TT, (⟨#[116, 97, 103, 115, 47]⟩ : ByteArray) ++ NM = TT := ⟨_, rfl⟩
      have HTE : Hid (tagL (i + 1) = tagL i ++ [⟨TT, IX⟩]) := hideIt (by
        rw [tagL, List.range_succ, List.map_append]
        simp only [List.map_cons, List.map_nil]
        rw [tagR, tagN, hp, hr, ha, hb, hNM, hTT, HIX.out]
        rfl)
      have HCV : Hid (∀ (v1 : World) (g : Nat), v1.heap[g]? = some (.cells #[.int .u8 (a : Int), .int .u8 (b : Int)] 5 (0, 0)) → (convert 56 9 (.slice (some ⟨g, 0, none⟩) 2 2)).run Try.prog v1 = .ok (.string NM) v1) := hideIt (fun v1 g h => by rw [← hNM]; exact two_convA a b ha2 hb2 v1 g h)
      have hcv1 : ∀ v : World, (convert 56 9 (.slice (some ⟨v.heap.size, 0, none⟩) 2 2)).run Try.prog (v.alloc (.cells #[.int .u8 (a : Int), .int .u8 (b : Int)] 5)) = .ok (.string NM) (v.alloc (.cells #[.int .u8 (a : Int), .int .u8 (b : Int)] 5)) := fun v => HCV.out _ _ (alloc_at rfl)
      have hcv2 : ∀ v : World, (convert 56 9 (.slice (some ⟨v.heap.size, 0, none⟩) 2 2)).run Try.prog (v.alloc (.cells #[.int .u8 (a : Int), .int .u8 (b : Int)] 5)).drew = .ok (.string NM) (v.alloc (.cells #[.int .u8 (a : Int), .int .u8 (b : Int)] 5)).drew := fun v => HCV.out _ _ (alloc_at (w := v) rfl)
      have HLN : Hid ((tagL i).length = i) := hideIt (tagL_len i)
      have HLD : Hid (∀ X, Below wr.heap.size wr X → X.cell? ⟨w.heap.size, 1, none⟩ = some (.slice sa i sc)) := hideIt (fun X hX => cellAt (HLM.out.below hX).box rfl)
      have HDR : Hid (Below wr.heap.size wr wr.drew) := hideIt ⟨rfl, rfl, rfl, Nat.le_refl _, fun _ _ => rfl⟩
      have HND : Hid (Below wr.heap.size wr (wr.alloc (.cells #[.int .u8 (a : Int), .int .u8 (b : Int)] 5)).drew) := hideIt ((new_below wr _).trans ⟨rfl, rfl, rfl, Nat.le_refl _, fun _ _ => rfl⟩)
      have f0 := HLD.out wr (Below.refl _ _)
      have f1 := HLD.out _ (new_below wr (.cells #[.int .u8 (a : Int), .int .u8 (b : Int)] 5))
      have HIA : Hid (Calls Try.prog 21 #[.int .u8 120] (wr.alloc (.cells #[.int .u8 (a : Int), .int .u8 (b : Int)] 5)).drew fun e w1 => e = .returned (.string IX) ∧ Below wr.heap.size wr w1 ∧ (convert 56 9 (.slice (some ⟨wr.heap.size, 0, none⟩) 2 2)).run Try.prog w1 = .ok (.string NM) w1) := hideIt ((HI1.out _).mono fun e w1 h => ⟨h.1, below_step HND.out (Nat.le_refl _) h.2, HCV.out _ _ (kept_new h.2)⟩)
      have HIB : Hid (Calls Try.prog 21 #[.int .u8 120] wr.drew fun e w1 => e = .returned (.string IX) ∧ Below wr.heap.size wr w1) := hideIt ((HI1.out _).mono fun e w1 h => ⟨h.1, below_step HDR.out (Nat.le_refl _) h.2⟩)
      clear hp hr ha hb hNM
      go_wp2
      go_region_law (first
        | (refine Cb.step_append_own (by rfl) _ _ 22 (by rfl) (w.heap.size + 1) 59 i0 (.agg #[.string ⟨#[]⟩, .string ⟨#[]⟩]) 2 32 Try.underlying22 hi0 hz0 hz1 hz2 rfl (by decide) _ i _ (by rfl) (L1.out.row_n HLN.out (new_below w1 _)) ⟨w1.heap.size, 0, none⟩ 1 1 (rfV (Rf.mk TT IX)) (by rfl) rfl (one_refX TT IX _ _ (alloc_at rfl)) (fun u hu => rfsV_one [Rf.mk TT IX] u (by simpa [rfsV] using hu)) (by unfold maxLen; omega) (by omega) (by have := L1.out.hi; simp; omega) ?_; intro v3 w7 hown7 hg7; obtain ⟨g7, cp7, rfl⟩ := row_form2 hown7; have A7 := hideIt (L1.out.append HLN.out (Rf.mk TT IX) (new_below w1 _) hg7 hown7); have x1 := A7.out.1.1; have y1 := A7.out.1.2; clear hown7 hg7)
        | (refine Cb.step_append_own (by rfl) _ _ 22 (by rfl) (w.heap.size + 1) 59 i0 (.agg #[.string ⟨#[]⟩, .string ⟨#[]⟩]) 2 32 Try.underlying22 hi0 hz0 hz1 hz2 rfl (by decide) _ i _ (by rfl) (L1.out.row_n HLN.out (below_step (new_below w1 _) (Nat.le_refl _) (new_below _ _))) ⟨w1.heap.size + 1, 0, none⟩ 1 1 (rfV (Rf.mk TT IX)) (by rfl) rfl (one_refX TT IX _ _ (alloc_at (by simp))) (fun u hu => rfsV_one [Rf.mk TT IX] u (by simpa [rfsV] using hu)) (by unfold maxLen; omega) (by omega) (by have := L1.out.hi; simp; omega) ?_; intro v3 w7 hown7 hg7; obtain ⟨g7, cp7, rfl⟩ := row_form2 hown7; have A7 := hideIt (L1.out.append HLN.out (Rf.mk TT IX) (below_step (new_below w1 _) (Nat.le_refl _) (new_below _ _)) hg7 hown7); have x1 := A7.out.1.1; have y1 := A7.out.1.2; clear hown7 hg7)
        | (go_simp; go_at_call 21; refine HIA.out.mono ?_; rintro e w1 ⟨rfl, hb1, hcvx⟩; dsimp only; have L1 := hideIt (HLM.out.below hb1); have q0 := HLD.out _ hb1; have q1 := HLD.out _ (below_step hb1 (Nat.le_refl _) (new_below w1 (.cells #[.int .u8 (a : Int), .int .u8 (b : Int)] 5))); have q2 := HLD.out _ (below_step hb1 (Nat.le_refl _) (new_below w1 (.cells #[.string TT, .string IX] 59))); have q3 := HLD.out _ (below_step (below_step hb1 (Nat.le_refl _) (new_below w1 (.cells #[.int .u8 (a : Int), .int .u8 (b : Int)] 5))) (Nat.le_refl _) (new_below (w1.alloc (.cells #[.int .u8 (a : Int), .int .u8 (b : Int)] 5)) (.cells #[.string TT, .string IX] 59))); clear hb1)
        | (go_simp; go_at_call 21; refine HIB.out.mono ?_; rintro e w1 ⟨rfl, hb1⟩; dsimp only; have L1 := hideIt (HLM.out.below hb1); have q0 := HLD.out _ hb1; have q1 := HLD.out _ (below_step hb1 (Nat.le_refl _) (new_below w1 (.cells #[.int .u8 (a : Int), .int .u8 (b : Int)] 5))); have q2 := HLD.out _ (below_step hb1 (Nat.le_refl _) (new_below w1 (.cells #[.string TT, .string IX] 59))); have q3 := HLD.out _ (below_step (below_step hb1 (Nat.le_refl _) (new_below w1 (.cells #[.int .u8 (a : Int), .int .u8 (b : Int)] 5))) (Nat.le_refl _) (new_below (w1.alloc (.cells #[.int .u8 (a : Int), .int .u8 (b : Int)] 5)) (.cells #[.string TT, .string IX] 59))); clear hb1))
      all_goals go_wp2
      all_goals go_roundw
      all_goals first
        | exact ⟨i + 1, _, by omega, by go_num, by rw [HTE.out]; exact A7.out.2⟩
        | (simp [intOf]; omega)
    · have i2 : decide ((i : Int) < 255) = false := decide_eq_false (by omega)
      have H255 := hideIt (show i = 255 by omega)
      obtain ⟨j0, hj0, hy0, hy1, hy2⟩ := info_parts infoUp
      obtain ⟨W1, rfl⟩ : ∃ W1, W1 = wr := ⟨_, rfl⟩
      clear hi0 hz0 hz1 hz2
      go_wp2
      go_loopw [6, 7] (fun u t X => ∃ j : Nat, j ≤ k ∧ t = .int .i64 (j : Int) ∧ X.ownsRow W1.heap.size 34 4 u j (upsV (hedL j)) ∧ Below W1.heap.size W1 X) (fun _ t _ => k - (intOf t).toNat)
      case atStart => exact ⟨0, by omega, rfl, new_empty W1.heap.size 4 W1 34 (Nat.le_refl _), new_below W1 _⟩
      case round =>
        obtain ⟨j, hj, rfl, ho, hbb⟩ := hrel
        have HO := hideIt ho
        have HBB := hideIt hbb
        obtain ⟨ua, uc, hv⟩ := own_slice ho
        subst hv
        clear ho hbb
        by_cases hjk : j < k
        · have i0' : (0 : Int) ≤ (j : Int) := by omega
          have i1 : (j : Int) < (k : Int) := by omega
          have i3 : decide ((j : Int) < (k : Int)) = true := decide_eq_true i1
          obtain ⟨a, ha⟩ : ∃ a, 97 + j = a := ⟨_, rfl⟩
          have e2 : IntKind.u8.wrap (j : Int) = (j : Int) := by rw [IntKind.wrap_u8]; omega
          have e3 : (97 : Int) + (j : Int) = (a : Int) := by omega
          have e4 : IntKind.u8.wrap (a : Int) = (a : Int) := by rw [IntKind.wrap_u8]; omega
          have ha2 : a < 256 := by omega
          obtain ⟨NM, hNM⟩ : ∃ NM, Cb.bs [UInt8.ofNat a] = NM := ⟨_, rfl⟩
          have hNs : NM.size ≤ 2 := by rw [← hNM, Cb.bs_size]; simp
          have s5 : ¬ 9223372036854775807 < 6 + NM.size := by omega
          obtain ⟨TT, hTT⟩ : ∃ TT, (⟨#[104, 101, 97, 100, 115, 47]⟩ : ByteArray) ++ NM = TT := ⟨_, rfl⟩
          have HTE : Hid (upsV (hedL (j + 1)) = upsV (hedL j) ++ upV ⟨TT, ⟨#[]⟩, IY, false⟩) := hideIt (by
            rw [hedL, List.range_succ, List.map_append]
            simp only [List.map_cons, List.map_nil]
            rw [hedU, hedN, ha, hNM, hTT, HIY.out]
            simp [upsV, hedL])
          have HCV : Hid (∀ (v1 : World) (g : Nat), v1.heap[g]? = some (.cells #[.int .u8 (a : Int)] 5 (0, 0)) → (convert 56 9 (.slice (some ⟨g, 0, none⟩) 1 1)).run Try.prog v1 = .ok (.string NM) v1) := hideIt (fun v1 g h => by rw [← hNM]; exact one_convA a ha2 v1 g h)
          have hcv1 : ∀ v : World, (convert 56 9 (.slice (some ⟨v.heap.size, 0, none⟩) 1 1)).run Try.prog (v.alloc (.cells #[.int .u8 (a : Int)] 5)) = .ok (.string NM) (v.alloc (.cells #[.int .u8 (a : Int)] 5)) := fun v => HCV.out _ _ (alloc_at rfl)
          have hcv2 : ∀ v : World, (convert 56 9 (.slice (some ⟨v.heap.size, 0, none⟩) 1 1)).run Try.prog (v.alloc (.cells #[.int .u8 (a : Int)] 5)).drew = .ok (.string NM) (v.alloc (.cells #[.int .u8 (a : Int)] 5)).drew := fun v => HCV.out _ _ (alloc_at (w := v) rfl)
          have HDR : Hid (Below wr.heap.size wr wr.drew) := hideIt ⟨rfl, rfl, rfl, Nat.le_refl _, fun _ _ => rfl⟩
          have HND : Hid (Below wr.heap.size wr (wr.alloc (.cells #[.int .u8 (a : Int)] 5)).drew) := hideIt ((new_below wr _).trans ⟨rfl, rfl, rfl, Nat.le_refl _, fun _ _ => rfl⟩)
          have HIA : Hid (Calls Try.prog 21 #[.int .u8 121] (wr.alloc (.cells #[.int .u8 (a : Int)] 5)).drew fun e w1 => e = .returned (.string IY) ∧ Below wr.heap.size wr w1 ∧ (convert 56 9 (.slice (some ⟨wr.heap.size, 0, none⟩) 1 1)).run Try.prog w1 = .ok (.string NM) w1) := hideIt ((HI2.out _).mono fun e w1 h => ⟨h.1, below_step HND.out (Nat.le_refl _) h.2, HCV.out _ _ (kept_new h.2)⟩)
          have HIB : Hid (Calls Try.prog 21 #[.int .u8 121] wr.drew fun e w1 => e = .returned (.string IY) ∧ Below wr.heap.size wr w1) := hideIt ((HI2.out _).mono fun e w1 h => ⟨h.1, below_step HDR.out (Nat.le_refl _) h.2⟩)
          clear ha hNM
          go_wp2
          go_region_law (first
            | (refine Cb.step_append_own (by rfl) _ _ 25 (by rfl) W1.heap.size 34 j0 (.agg #[.string ⟨#[]⟩, .string ⟨#[]⟩, .string ⟨#[]⟩, .bool false]) 4 56 Try.underlying25 hj0 hy0 hy1 hy2 rfl (by decide) _ j _ (by rfl) (own_below O1.out (new_below w1 _)) ⟨w1.heap.size, 0, none⟩ 1 1 (upV (Up.mk TT ⟨#[]⟩ IY false)) (by rfl) rfl (one_upX TT IY _ _ (alloc_at rfl)) (fun u hu => upsV_one [Up.mk TT ⟨#[]⟩ IY false] u (by simpa [upsV] using hu)) (by unfold maxLen; omega) (by omega) (by have := B1.out.size; simp; omega) ?_; intro v3 w7 hown7 hg7; have O7 := hideIt hown7; have B7 := hideIt (Below.grown (below_step B1.out (Nat.le_refl _) (new_below w1 _)) hg7 (by have := B1.out.size; simp; omega) (row_ge O1.out)); clear hown7 hg7)
            | (refine Cb.step_append_own (by rfl) _ _ 25 (by rfl) W1.heap.size 34 j0 (.agg #[.string ⟨#[]⟩, .string ⟨#[]⟩, .string ⟨#[]⟩, .bool false]) 4 56 Try.underlying25 hj0 hy0 hy1 hy2 rfl (by decide) _ j _ (by rfl) (own_below O1.out (below_step (new_below w1 _) (Nat.le_refl _) (new_below _ _))) ⟨w1.heap.size + 1, 0, none⟩ 1 1 (upV (Up.mk TT ⟨#[]⟩ IY false)) (by rfl) rfl (one_upX TT IY _ _ (alloc_at (by simp))) (fun u hu => upsV_one [Up.mk TT ⟨#[]⟩ IY false] u (by simpa [upsV] using hu)) (by unfold maxLen; omega) (by omega) (by have := B1.out.size; simp; omega) ?_; intro v3 w7 hown7 hg7; have O7 := hideIt hown7; have B7 := hideIt (Below.grown (below_step B1.out (Nat.le_refl _) (below_step (new_below w1 _) (Nat.le_refl _) (new_below _ _))) hg7 (by have := B1.out.size; simp; omega) (row_ge O1.out)); clear hown7 hg7)
            | (go_simp; go_at_call 21; refine HIA.out.mono ?_; rintro e w1 ⟨rfl, hb1, hcvx⟩; dsimp only; have O1 := hideIt (own_below HO.out hb1); have B1 := hideIt (below_step HBB.out (Nat.le_refl _) hb1); clear hb1)
            | (go_simp; go_at_call 21; refine HIB.out.mono ?_; rintro e w1 ⟨rfl, hb1⟩; dsimp only; have O1 := hideIt (own_below HO.out hb1); have B1 := hideIt (below_step HBB.out (Nat.le_refl _) hb1); clear hb1))
          all_goals go_wp2
          all_goals go_roundw
          all_goals first
            | exact ⟨j + 1, by omega, by go_num, by rw [HTE.out]; exact O7.out, B7.out⟩
            | (simp [intOf]; omega)
        · have i3 : decide ((j : Int) < (k : Int)) = false := decide_eq_false (by omega)
          obtain rfl : j = k := by omega
          have HL2 := hideIt (HLM.out.below HBB.out)
          have q0 := cellAt (i := 0) HL2.out.box rfl
          have q1 := cellAt (i := 1) HL2.out.box rfl
          obtain ⟨M, hM1, hM2⟩ := most_app (fun _ _ => true) j (by omega)
          rw [← H255.out] at hM1
          have HAP : Hid (Calls Try.prog 8 #[.agg #[.string ⟨#[104, 101, 97, 100, 115, 47, 109, 97, 105, 110]⟩, .slice sa i sc], .slice ua j uc, .func (.func 22) #[] #[]] wr fun e w' => AppIs wr mainS (if 1 < j then 3 else 0) M e w') := hideIt (by
            have hrow := HL2.out.row
            refine (apply_any mainS (.slice sa i sc) (tagL i) (.slice ua j uc) (hedL j) 22 #[] (fun _ _ => true) wr (VRow.of_row hrow) (by rw [tagL_len]; omega) ?_ (by rw [hedL_len]; omega) (fwd_always _) (by decide) (fun i' x hx => ?_)).mono ?_
            · show VRow 4 wr (.slice ua j uc) (hedL j).length (upsV (hedL j))
              rw [hedL_len]
              exact VRow.of_row HO.out
            · rw [H255.out] at hx
              have := tagL_wf x (List.mem_of_getElem? hx)
              have h2 := okN_size this.1
              exact ⟨by omega, by omega⟩
            · intro e w' h
              rw [hM1] at h
              exact appTo_is h)
          have HAW := hideIt awake_any
          have HBW : Hid (Below w.heap.size w wr) := hideIt HL2.out.bel
          clear hM1
          by_cases h1 : 1 < j
          · rw [if_pos h1] at hM2 HAP
            have g1 : (1 : Int) < (j : Int) := by omega
            have g2 : decide ((1 : Int) < (j : Int)) = true := decide_eq_true g1
            go_wp2_with (first
              | (go_at_call 8; refine HAP.out.mono ?_; rintro e w8 ⟨a8, c8, rfl, ho8, hb8⟩; rw [hM2]; have B8 := hideIt (below_step HBW.out (Nat.le_refl _) hb8); have x8 := (new_below w8 (.cells #[.string mainS, .slice a8 255 c8] 24)); have B9 := hideIt (below_step B8.out (Nat.le_refl _) x8); clear hb8 ho8)
              | (go_at_call 12; refine (HAW.out _).mono ?_; rintro e w9 ⟨rfl, hb9⟩; have y1 := cellAt (i := 1) ((hb9.block w8.heap.size (by simp)).trans (alloc_at rfl)) rfl; have B10 := hideIt (below_step B9.out (Nat.le_refl _) hb9); clear hb9))
            go_ret
            exact ⟨rfl, B10.out⟩
          · rw [if_neg h1] at hM2 HAP
            have g1 : ¬ (1 : Int) < (j : Int) := by omega
            have g2 : decide ((1 : Int) < (j : Int)) = false := decide_eq_false g1
            obtain ⟨L, hL⟩ : ∃ L, 255 + j = L := ⟨_, rfl⟩
            have hLI : (255 : Int) + (j : Int) = (L : Int) := by omega
            have hw1 : IntKind.i64.wrap (L : Int) = (L : Int) := by rw [IntKind.wrap_i64]; omega
            rw [hL] at hM2
            go_wp2_with (first
              | (go_at_call 8; refine HAP.out.mono ?_; rintro e w8 ⟨a8, c8, rfl, ho8, hb8⟩; rw [hM2]; have B8 := hideIt (below_step HBW.out (Nat.le_refl _) hb8); have x8 := (new_below w8 (.cells #[.string mainS, .slice a8 L c8] 24)); have B9 := hideIt (below_step B8.out (Nat.le_refl _) x8); clear hb8 ho8)
              | (go_at_call 12; refine (HAW.out _).mono ?_; rintro e w9 ⟨rfl, hb9⟩; have y1 := cellAt (i := 1) ((hb9.block w8.heap.size (by simp)).trans (alloc_at rfl)) rfl; have B10 := hideIt (below_step B9.out (Nat.le_refl _) hb9); clear hb9))
            go_ret
            exact ⟨rfl, B10.out⟩
end Go.Proofs.Ytecdjejemohkgaa.Rf
