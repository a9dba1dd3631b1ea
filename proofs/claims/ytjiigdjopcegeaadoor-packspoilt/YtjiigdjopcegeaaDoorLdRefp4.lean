/- The document's pressing of a text, walked. -/
import Derived.Test.YtjiigdjopcegeaaDoorLdRefb
namespace Go.Proofs.YtjiigdjopcegeaaDoor.Ld
open Cb
open Go.RowKit
theorem nonempty_list {E : ByteArray} {k : Nat} (h : E.size = k + 1) : (E.toList == []) = false := by
  rw [ByteArray.toList_eq]
  cases e : E.data.toList with
  | nil => rw [← str_len, e] at h; simp at h
  | cons x t => rfl
set_option maxHeartbeats 1600000 in
set_option maxRecDepth 100000 in
theorem refpress_any (s : ByteArray) (w : World) (hs : s.size ≤ 1048576) :
    Calls Tryd.prog 39 #[.string s] w fun e w' => e = .returned (.string (bs (Lz.press s.data.toList))) ∧ Below w.heap.size w w' := by
  obtain ⟨n, hn⟩ : ∃ n, s.size = n := ⟨_, rfl⟩
  have si : (s.size : Int) = (n : Int) := by omega
  have ni : (n : Int) ≤ 1048576 := by omega
  have HB := hideIt (fun (a : Nat) (w : World) (ha : a ≤ n) => refback_any s a w (by omega) hs)
  have HNU := hideIt (fun (k : Nat) (w : World) (hk : k ≤ 1048576) => refnum_any k w (by omega))
  obtain ⟨L, hL⟩ : ∃ L, s.data.toList = L := ⟨_, rfl⟩
  have hlen : L.length = n := by rw [← hL, str_len, hn]
  rw [hL] at HB ⊢
  have HLL := hideIt (And.intro hL hlen)
  have HSN := hideIt hn
  have H0 := hideIt (HNU.out n w (by omega))
  obtain ⟨x0, hx0⟩ : ∃ x, bs (Cd.numL n) = x := ⟨_, rfl⟩
  rw [hx0] at H0
  have HX0 := hideIt hx0
  clear hs hL hlen hx0 hn
  go_enter Tryd.func39, Tryd.ntmps39
  go_wp2_with (first | (go_at_call 19; refine H0.out.mono ?_; rintro e w1 ⟨rfl, hb1⟩))
  go_loopw [3, 4, 5] (fun o l t wr => ∃ (i told : Nat) (X Y : ByteArray), told ≤ i ∧ i ≤ n ∧ t = .int .i64 i ∧ o = .string X ∧ l = .string Y ∧ Y.data.toList = (L.drop told).take (i - told) ∧ Lz.press L = X.data.toList ++ Lz.tell L told i ∧ X.size ≤ 8 + 4 * told ∧ Below w.heap.size w wr) (fun _ _ t _ => n - (intOf t).toNat)
  case atStart =>
    refine ⟨0, 0, x0, ⟨#[]⟩, by omega, by omega, rfl, rfl, rfl, by simp, by rw [Lz.press, HLL.out.2, ← HX0.out, bs_list], ?_, hb1⟩
    rw [← HX0.out, bs_size]
    have := numL_small n (by omega)
    omega
  case round =>
    obtain ⟨i, told, X, Y, h1, h2, rfl, rfl, rfl, hY, ht, hX, hr⟩ := hrel
    clear H0 hb1
    have hYs : Y.size = i - told := by rw [← str_len, hY, List.length_take, List.length_drop, HLL.out.2]; omega
    have HR := hideIt hr
    by_cases hlt : i < n
    · have hid : decide ((i : Int) < (n : Int)) = true := by simp; omega
      have hid1 : (i : Int) < (n : Int) := by omega
      have HBA := hideIt (HB.out i wr (by omega))
      obtain ⟨i', hi'⟩ : ∃ i', i + 1 = i' := ⟨_, rfl⟩
      have i1 : (i : Int) + 1 = (i' : Int) := by omega
      have i2 : (i' : Int) ≤ (n : Int) := by omega
      have i3 : (i : Int) ≤ (i' : Int) := by omega
      by_cases hb : Lz.back L i = 0
      · rw [hb] at HBA
        obtain ⟨E, hE⟩ : ∃ E, s.extract i i' = E := ⟨_, rfl⟩
        have hEd : E.data.toList = (L.drop i).take 1 := by rw [← hE, data_mid, HLL.out.1, ← hi', Nat.add_sub_cancel_left]
        have hEs : E.size = 1 := by rw [← str_len, hEd, List.length_take, List.length_drop, HLL.out.2]; omega
        have t1 : ¬ 9223372036854775807 < Y.size + E.size := by omega
        have HQ : Hid (i' ≤ n ∧ told ≤ i' ∧ (Y ++ E).data.toList = (L.drop told).take (i' - told) ∧ Lz.press L = X.data.toList ++ Lz.tell L told i' ∧ X.size ≤ 8 + 4 * told) := by
          refine hideIt ⟨by omega, by omega, ?_, ?_, hX⟩
          · rw [cat_data, hY, hEd, ← hi', show i + 1 - told = (i - told) + 1 by omega, List.take_add, List.drop_drop, show told + (i - told) = i by omega]
          · rw [ht, Lz.tell_next (by rw [HLL.out.2]; exact hlt) hb, hi']
        have HI := hideIt hi'
        clear hr hY ht hX hYs hEd hEs hb hi'
        go_wp2_with (first | (go_at_call 52; refine HBA.out.mono ?_; rintro e w2 ⟨rfl, hb2⟩))
        go_roundw
        case rel => exact ⟨i', told, X, Y ++ E, HQ.out.2.1, HQ.out.1, rfl, rfl, rfl, HQ.out.2.2.1, HQ.out.2.2.2.1, HQ.out.2.2.2.2, below2 HR.out hb2⟩
        case measure => have := HI.out; simp [intOf]; omega
      · have hk := Lz.back_some hb
        have hx : i + Lz.run L i ≤ n := by rw [← HLL.out.2]; exact Lz.run_le hb
        have hx4 : 4 ≤ Lz.run L i := by unfold Lz.run; omega
        have HT := hideIt ht
        rw [Lz.tell_rep (by rw [HLL.out.2]; exact hlt) hb] at HT
        have HRN : Hid (Lz.run L i = 4 + Lz.same (L.drop (i + 4 - Lz.back L i)) (L.drop (i + 4))) := hideIt rfl
        obtain ⟨b, hbd⟩ : ∃ b, Lz.back L i = b := ⟨_, rfl⟩
        obtain ⟨r, hrd⟩ : ∃ r, Lz.run L i = r := ⟨_, rfl⟩
        rw [hbd] at hk HT HBA hb HRN
        rw [hrd] at hx hx4 HT HRN
        have b1 : ¬ (b : Int) = 0 := by omega
        have b2 : ((b : Int) == 0) = false := by simp; omega
        have b3 : (b : Int) ≤ 32768 := by omega
        have HK := hideIt hk
        have HYX := hideIt (And.intro hY (And.intro hYs hX))
        have HXX := hideIt (And.intro hx hx4)
        clear hr hY ht hX hYs hb hbd hrd hk hx hx4 hi'
        go_wp2_with (first | (go_at_call 52; refine HBA.out.mono ?_; rintro e w2 ⟨rfl, hb2⟩))
        have HB2 := hideIt (below2 HR.out hb2)
        clear hb2
        go_loopw [7] (fun t wr => ∃ (j c : Nat), c = 4 + j ∧ i + c ≤ n ∧ t = .int .i64 c ∧ r = c + Lz.same (L.drop (i + 4 - b + j)) (L.drop (i + 4 + j)) ∧ Below w.heap.size w wr) (fun t _ => n - (intOf t).toNat)
        case atStart => exact ⟨0, 4, rfl, by have := HK.out.1; rw [HLL.out.2] at this; exact this, rfl, HRN.out, HB2.out⟩
        case round =>
          obtain ⟨j, c, hc, hcn, rfl, hrun, hrr⟩ := hrel
          clear HB2 HRN
          obtain ⟨y, hy⟩ : ∃ y, i + c = y := ⟨_, rfl⟩
          obtain ⟨x, hxx⟩ : ∃ x, y - b = x := ⟨_, rfl⟩
          have hbi : b ≤ i := HK.out.2.2.1
          have y1' : (i : Int) + (c : Int) = (y : Int) := by omega
          have x1 : (y : Int) - (b : Int) = (x : Int) := by omega
          have cI : (c : Int) ≤ 1048576 := by omega
          have HRR := hideIt (fun q => hrr.trans (c := wr.drewN q) ⟨rfl, rfl, rfl, Nat.le_refl _, fun _ _ => rfl⟩)
          clear hrr
          have hsz : s.size = n := HSN.out
          rw [show i + 4 - b + j = x by omega, show i + 4 + j = y by omega, ← HLL.out.1] at hrun
          by_cases hyn : y < n
          · have hidy : decide ((y : Int) < (n : Int)) = true := by simp; omega
            have y3 : y < s.size := by omega
            have x3 : x < s.size := by omega
            have y2 : (y : Int) < (s.size : Int) := by omega
            have x2 : (x : Int) < (s.size : Int) := by omega
            have y4 : (y : Int) < (n : Int) := by omega
            have x4 : (x : Int) < (n : Int) := by omega
            have hsame := same_data s x y x3 y3
            rw [hsame] at hrun
            by_cases hcc : s[x] = s[y]
            · rw [if_pos hcc] at hrun
              have hc1 : ((s[y]'y3).toNat : Int) = ((s[x]'x3).toNat : Int) := by rw [hcc]
              have HE : Hid (r = (c + 1) + Lz.same (L.drop (i + 4 - b + (j + 1))) (L.drop (i + 4 + (j + 1))) ∧ c + 1 = 4 + (j + 1) ∧ i + (c + 1) ≤ n) := by
                refine hideIt ⟨?_, by omega, by omega⟩
                rw [hrun, ← HLL.out.1, show i + 4 - b + (j + 1) = x + 1 by omega, show i + 4 + (j + 1) = y + 1 by omega]; omega
              clear hrun hsame hcc hy hxx hc hsz
              go_wp2
              go_quiet (fail)
              go_wp2
              go_roundw
              case rel => exact ⟨j + 1, c + 1, HE.out.2.1, HE.out.2.2, by go_num, HE.out.1, HRR.out _⟩
              case measure => simp [intOf]; omega
            · rw [if_neg hcc] at hrun
              have hrc : r = c := by omega
              obtain ⟨u, hu⟩ : ∃ u, (s[x]'x3).toNat = u := ⟨_, rfl⟩
              obtain ⟨v, hv⟩ : ∃ v, (s[y]'y3).toNat = v := ⟨_, rfl⟩
              have hne : ¬ u = v := by
                intro e
                apply hcc
                rw [← hu, ← hv] at e
                exact UInt8.toNat_inj.1 e
              have u1 : ((s[x]'x3).toNat : Int) = (u : Int) := by rw [hu]
              have v1 : ((s[y]'y3).toNat : Int) = (v : Int) := by rw [hv]
              have hne1 : ¬ (v : Int) = (u : Int) := by omega
              have hne2 : decide ((v : Int) = (u : Int)) = false := decide_eq_false hne1
              have hne3 : ((v : Int) == (u : Int)) = false := beq_eq_false_iff_ne.2 hne1
              clear hsame hcc hu hv hsz
              have HRC := hideIt hrc
              obtain ⟨m1, hm1⟩ : ∃ m1, i - told = m1 := ⟨_, rfl⟩
              obtain ⟨q, hq⟩ : ∃ q, c - 4 = q := ⟨_, rfl⟩
              have hyy := hy
              have q1 : (c : Int) - 4 = (q : Int) := by omega
              have j1 : (i : Int) + (c : Int) = (y : Int) := by omega
              have jI : (y : Int) ≤ 1048576 := by omega
              have y1 : (Y.size : Int) = (m1 : Int) := by rw [HYX.out.2.1, hm1]
              have mI : (m1 : Int) ≤ 1048576 := by omega
              have H1 := hideIt (fun w => HNU.out m1 w (by omega))
              have H2 := hideIt (fun w => HNU.out b w (by omega))
              have H3 := hideIt (fun w => HNU.out q w (by omega))
              obtain ⟨A, hA⟩ : ∃ A, bs (Cd.numL m1) = A := ⟨_, rfl⟩
              obtain ⟨B, hB⟩ : ∃ B, bs (Cd.numL b) = B := ⟨_, rfl⟩
              obtain ⟨C, hC⟩ : ∃ C, bs (Cd.numL q) = C := ⟨_, rfl⟩
              have sA : A.size ≤ 4 := by rw [← hA, bs_size]; exact numL_small m1 (by omega)
              have sB : B.size ≤ 4 := by rw [← hB, bs_size]; exact numL_small b (by omega)
              have sC : C.size ≤ 4 := by rw [← hC, bs_size]; exact numL_small q (by omega)
              rw [hA] at H1
              rw [hB] at H2
              rw [hC] at H3
              have sY : Y.size ≤ 1048576 := by omega
              have sX : X.size ≤ 8 + 4 * told := HYX.out.2.2
              have t1 : ¬ 9223372036854775807 < A.size + Y.size := by omega
              have t2 : ¬ 9223372036854775807 < A.size + Y.size + B.size := by omega
              have t3 : ¬ 9223372036854775807 < A.size + Y.size + B.size + C.size := by omega
              have t4 : ¬ 9223372036854775807 < X.size + (A.size + Y.size + B.size + C.size) := by omega
              have HQ : Hid (y ≤ n ∧ Lz.press L = (X ++ (A ++ Y ++ B ++ C)).data.toList ++ Lz.tell L y y ∧ (X ++ (A ++ Y ++ B ++ C)).size ≤ 8 + 4 * y ∧ i < y) := by
                refine hideIt ⟨by omega, ?_, ?_, by omega⟩
                · rw [HT.out, HRC.out, hq, hyy, hm1]
                  simp only [cat_data, ← hA, ← hB, ← hC, bs_list, HYX.out.1, hm1, List.append_assoc]
                · simp only [ByteArray.size_append]; have := HYX.out.2.1; omega
              clear hy hxx
              clear hA hB hC hq hm1 hyy sX sY hrun hc hrc
              go_wp2
              go_quiet (fail)
              go_wp2_with (first | (go_at_call_of 19 (Value.int IntKind.u64 (m1 : Int)); refine (H1.out _).mono ?_; rintro e w3 ⟨rfl, hb3⟩) | (go_at_call_of 19 (Value.int IntKind.u64 (b : Int)); refine (H2.out _).mono ?_; rintro e w4 ⟨rfl, hb4⟩) | (go_at_call 19; refine (H3.out _).mono ?_; rintro e w5 ⟨rfl, hb5⟩))
              go_roundw
              case rel => exact ⟨y, y, _, ⟨#[]⟩, Nat.le_refl _, HQ.out.1, rfl, rfl, rfl, by simp, HQ.out.2.1, HQ.out.2.2.1, below2 (below2 (below2 (HRR.out _) hb3) hb4) hb5⟩
              case measure => have := HQ.out; simp [intOf]; omega
          · have hidy : decide ((y : Int) < (n : Int)) = false := by simp; omega
            rw [same_none s x y (by omega)] at hrun
            have hrc : r = c := by omega
            clear hsz
            have HRC := hideIt hrc
            obtain ⟨m1, hm1⟩ : ∃ m1, i - told = m1 := ⟨_, rfl⟩
            obtain ⟨q, hq⟩ : ∃ q, c - 4 = q := ⟨_, rfl⟩
            have hyy := hy
            have q1 : (c : Int) - 4 = (q : Int) := by omega
            have j1 : (i : Int) + (c : Int) = (y : Int) := by omega
            have jI : (y : Int) ≤ 1048576 := by omega
            have y1 : (Y.size : Int) = (m1 : Int) := by rw [HYX.out.2.1, hm1]
            have mI : (m1 : Int) ≤ 1048576 := by omega
            have H1 := hideIt (fun w => HNU.out m1 w (by omega))
            have H2 := hideIt (fun w => HNU.out b w (by omega))
            have H3 := hideIt (fun w => HNU.out q w (by omega))
            obtain ⟨A, hA⟩ : ∃ A, bs (Cd.numL m1) = A := ⟨_, rfl⟩
            obtain ⟨B, hB⟩ : ∃ B, bs (Cd.numL b) = B := ⟨_, rfl⟩
            obtain ⟨C, hC⟩ : ∃ C, bs (Cd.numL q) = C := ⟨_, rfl⟩
            have sA : A.size ≤ 4 := by rw [← hA, bs_size]; exact numL_small m1 (by omega)
            have sB : B.size ≤ 4 := by rw [← hB, bs_size]; exact numL_small b (by omega)
            have sC : C.size ≤ 4 := by rw [← hC, bs_size]; exact numL_small q (by omega)
            rw [hA] at H1
            rw [hB] at H2
            rw [hC] at H3
            have sY : Y.size ≤ 1048576 := by omega
            have sX : X.size ≤ 8 + 4 * told := HYX.out.2.2
            have t1 : ¬ 9223372036854775807 < A.size + Y.size := by omega
            have t2 : ¬ 9223372036854775807 < A.size + Y.size + B.size := by omega
            have t3 : ¬ 9223372036854775807 < A.size + Y.size + B.size + C.size := by omega
            have t4 : ¬ 9223372036854775807 < X.size + (A.size + Y.size + B.size + C.size) := by omega
            have HQ : Hid (y ≤ n ∧ Lz.press L = (X ++ (A ++ Y ++ B ++ C)).data.toList ++ Lz.tell L y y ∧ (X ++ (A ++ Y ++ B ++ C)).size ≤ 8 + 4 * y ∧ i < y) := by
              refine hideIt ⟨by omega, ?_, ?_, by omega⟩
              · rw [HT.out, HRC.out, hq, hyy, hm1]
                simp only [cat_data, ← hA, ← hB, ← hC, bs_list, HYX.out.1, hm1, List.append_assoc]
              · simp only [ByteArray.size_append]; have := HYX.out.2.1; omega
            clear hy hxx
            clear hA hB hC hq hm1 hyy sX sY hrun hc hrc
            go_wp2
            go_quiet (fail)
            go_wp2_with (first | (go_at_call_of 19 (Value.int IntKind.u64 (m1 : Int)); refine (H1.out _).mono ?_; rintro e w3 ⟨rfl, hb3⟩) | (go_at_call_of 19 (Value.int IntKind.u64 (b : Int)); refine (H2.out _).mono ?_; rintro e w4 ⟨rfl, hb4⟩) | (go_at_call 19; refine (H3.out _).mono ?_; rintro e w5 ⟨rfl, hb5⟩))
            go_roundw
            case rel => exact ⟨y, y, _, ⟨#[]⟩, Nat.le_refl _, HQ.out.1, rfl, rfl, rfl, by simp, HQ.out.2.1, HQ.out.2.2.1, below2 (below2 (below2 (HRR.out _) hb3) hb4) hb5⟩
            case measure => have := HQ.out; simp [intOf]; omega
    · have hid : decide ((i : Int) < (n : Int)) = false := by simp; omega
      obtain rfl : i = n := by omega
      have HT := hideIt ht
      rw [Lz.tell_end (by rw [HLL.out.2]; omega), HLL.out.2] at HT
      by_cases htl : told < i
      · rw [if_pos htl] at HT
        obtain ⟨m1, hm1⟩ : ∃ m1, i - told = m1 := ⟨_, rfl⟩
        have hY2 : Y.data.toList = L.drop told := by rw [hY, List.take_of_length_le (by rw [List.length_drop, HLL.out.2]; omega)]
        have y1 : (Y.size : Int) = (m1 : Int) := by rw [hYs, hm1]
        have mI : (m1 : Int) ≤ 1048576 := by omega
        have ne1 : (Y.toList == []) = false := nonempty_list (k := m1 - 1) (by omega)
        have ne2 : ¬ Y.toList = [] := beq_eq_false_iff_ne.1 ne1
        have H1 := hideIt (fun w => HNU.out m1 w (by omega))
        obtain ⟨A, hA⟩ : ∃ A, bs (Cd.numL m1) = A := ⟨_, rfl⟩
        have sA : A.size ≤ 4 := by rw [← hA, bs_size]; exact numL_small m1 (by omega)
        rw [hA] at H1
        have t1 : ¬ 9223372036854775807 < A.size + Y.size := by omega
        have t2 : ¬ 9223372036854775807 < X.size + (A.size + Y.size) := by omega
        have HQ : Hid (bs (Lz.press L) = X ++ (A ++ Y)) := by
          refine hideIt ?_
          rw [← bs_data (X ++ (A ++ Y)), cat_data, cat_data, ← hA, bs_list, hY2, HT.out, hm1]
        clear hr hY ht hYs hX hA hm1 hY2
        go_wp2_with (first | (go_at_call 19; refine (H1.out _).mono ?_; rintro e w3 ⟨rfl, hb3⟩))
        go_ret
        exact ⟨by rw [HQ.out]; rfl, below2 HR.out hb3⟩
      · rw [if_neg htl, List.append_nil] at HT
        have hY0 : Y = ⟨#[]⟩ := by
          rw [← bs_data Y, hY, show i - told = 0 by omega, List.take_zero]; rfl
        subst hY0
        have HQ : Hid (bs (Lz.press L) = X) := hideIt (by rw [HT.out, bs_data])
        clear hr hY ht hYs hX
        go_wp2
        go_ret
        exact ⟨by rw [HQ.out]; rfl, HR.out⟩
end Go.Proofs.YtjiigdjopcegeaaDoor.Ld
