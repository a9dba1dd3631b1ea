/- The document's Make, walked. -/
import Derived.Test.YtdbbgpcjclmelaaGreatDoorDeDlc
namespace Go.Proofs.YtdbbgpcjclmelaaGreatDoor.De
open Cb
open Go.RowKit
theorem putL_len (L : List UInt8) (h : L.length ≤ 100000000) : (Dl.putL L).length ≤ 5 + L.length := by
  unfold Dl.putL
  split
  · simp
  · have := numL_four (2 * L.length - 2) (by omega)
    rw [List.length_append]
    omega
theorem dropD (s : ByteArray) (a : Nat) (ha : a < s.size) : s.data.toList.drop a = s[a] :: s.data.toList.drop (a + 1) := by
  rw [List.drop_eq_getElem_cons (by rw [str_len]; exact ha)]
  rfl
theorem same_two (s t : ByteArray) (a b : Nat) (ha : a < s.size) (hb : b < t.size) : Dl.same (s.data.toList.drop a) (t.data.toList.drop b) = if s[a] = t[b] then Dl.same (s.data.toList.drop (a + 1)) (t.data.toList.drop (b + 1)) + 1 else 0 := by
  rw [dropD s a ha, dropD t b hb, Dl.same]
theorem same_end (L M : List UInt8) (a b : Nat) (h : L.length ≤ a ∨ M.length ≤ b) : Dl.same (L.drop a) (M.drop b) = 0 := by
  rcases h with h | h
  · rw [List.drop_of_length_le h]; rfl
  · rw [List.drop_of_length_le h]
    cases L.drop a <;> rfl
theorem catE (X A : ByteArray) (x a : List UInt8) (hX : X.data.toList = x) (hA : A.data.toList = a) : (X ++ A).data.toList = x ++ a := by rw [cat_data, hX, hA]
set_option maxHeartbeats 3200000 in
set_option maxRecDepth 100000 in
theorem refmake_any (B S : List UInt8) (w : World) (hB : B.length ≤ 100000000) (hS : S.length ≤ 100000000) :
    Calls Tryz.prog 21 #[.string (bs B), .string (bs S)] w fun e w' => e = .returned (.string (bs (Dl.make B S))) ∧ Below w.heap.size w w' := by
  obtain ⟨BB, hBB⟩ : ∃ S, bs B = S := ⟨_, rfl⟩
  obtain ⟨SS, hSS⟩ : ∃ T, bs S = T := ⟨_, rfl⟩
  obtain ⟨bn, hbn⟩ : ∃ n, B.length = n := ⟨_, rfl⟩
  obtain ⟨n, hn⟩ : ∃ n, S.length = n := ⟨_, rfl⟩
  have bz := bsz hBB
  have sz := bsz hSS
  have bI : (BB.size : Int) = (bn : Int) := by omega
  have sI : (SS.size : Int) = (n : Int) := by omega
  have bI2 : (bn : Int) ≤ 100000000 := by omega
  have sI2 : (n : Int) ≤ 100000000 := by omega
  have HBK := hideIt (fun (b : List UInt8) (w : World) => refblock_any B b w hB)
  rw [hBB] at HBK
  have HNU := hideIt (fun (k : Nat) (w : World) (hk : k ≤ 200000000) => refnum_any k w (by omega))
  have HPU := hideIt (fun (L : List UInt8) (w : World) (hk : L.length ≤ 100000000) => refput_any L w hk)
  have H0 := hideIt (fun w => HNU.out bn w (by omega))
  have H1 := hideIt (fun w => HNU.out n w (by omega))
  obtain ⟨x0, hx0⟩ : ∃ x, bs (Cd.numL bn) = x := ⟨_, rfl⟩
  obtain ⟨x1, hx1⟩ : ∃ x, bs (Cd.numL n) = x := ⟨_, rfl⟩
  have z0 := bsz hx0
  have z1 := bsz hx1
  have y0 := numL_four bn (by omega)
  have y1 := numL_four n (by omega)
  have t0 : ¬ 9223372036854775807 < x0.size + x1.size := by omega
  obtain ⟨M, hM⟩ : ∃ M, Dl.make B S = M := ⟨_, rfl⟩
  have HX : Hid (M = (x0 ++ x1).data.toList ++ Dl.tell B S 0 0 ∧ (x0 ++ x1).size ≤ 10) := by
    refine hideIt ⟨?_, ?_⟩
    · rw [← hM, Dl.make, hbn, hn, cat_data, ← hx0, ← hx1, bs_list, bs_list]
    · rw [ByteArray.size_append]; omega
  rw [hx0] at H0
  rw [hx1] at H1
  have HD : Hid (BB.data.toList = B ∧ SS.data.toList = S) := hideIt ⟨by rw [← hBB, bs_list], by rw [← hSS, bs_list]⟩
  have HL : Hid (B.length = bn ∧ S.length = n ∧ BB.size = bn ∧ SS.size = n) := hideIt ⟨hbn, hn, by omega, by omega⟩
  have HSS := hideIt hSS
  rw [hBB, hSS, hM]
  clear hBB hSS hbn hn bz sz hB hS hx0 hx1 z0 z1 y0 y1 hM
  go_enter Tryz.func21, Tryz.ntmps21
  go_wp2_with (first | (go_at_call_of 37 (Value.int IntKind.u64 (bn : Int)); refine (H0.out _).mono ?_; rintro e w1 ⟨rfl, hb1⟩; have B1 := hideIt hb1; clear hb1) | (go_at_call_of 37 (Value.int IntKind.u64 (n : Int)); refine (H1.out _).mono ?_; rintro e w2 ⟨rfl, hb2⟩; have B2 := hideIt (below2 B1.out hb2); clear hb2))
  go_loopw [5, 6, 7] (fun o l t wr => ∃ (i told : Nat) (X Y : ByteArray), told ≤ i ∧ i ≤ n ∧ t = .int .i64 i ∧ o = .string X ∧ l = .string Y ∧ Y.data.toList = (S.drop told).take (i - told) ∧ M = X.data.toList ++ Dl.tell B S told i ∧ X.size ≤ 10 + told ∧ Below w.heap.size w wr) (fun _ _ t _ => n - (intOf t).toNat)
  case atStart => exact ⟨0, 0, x0 ++ x1, ⟨#[]⟩, by omega, by omega, rfl, rfl, rfl, by simp, HX.out.1, HX.out.2, B2.out⟩
  case round =>
    obtain ⟨i, told, X, Y, h1, h2, rfl, rfl, rfl, hY, ht, hX, hr⟩ := hrel
    clear H0 H1 HX B1 B2 t0
    have hYs : Y.size = i - told := by rw [← str_len, hY, List.length_take, List.length_drop, HL.out.2.1]; omega
    have HR := hideIt hr
    by_cases hlt : i < n
    · have hid : decide ((i : Int) < (n : Int)) = true := by simp; omega
      have hid1 : (i : Int) < (n : Int) := by omega
      have htl : i < S.length := by rw [HL.out.2.1]; exact hlt
      obtain ⟨i', hi'⟩ : ∃ i', i + 1 = i' := ⟨_, rfl⟩
      have i1 : (i : Int) + 1 = (i' : Int) := by omega
      have i2 : (i' : Int) ≤ (n : Int) := by omega
      have i3 : (i : Int) ≤ (i' : Int) := by omega
      obtain ⟨i6, hi6⟩ : ∃ i6, i + 16 = i6 := ⟨_, rfl⟩
      have i4 : (i : Int) + 16 = (i6 : Int) := by omega
      have i5 : (i6 : Int) ≤ 100000016 := by omega
      have i7 : (i : Int) ≤ (i6 : Int) := by omega
      by_cases h6 : i6 ≤ n
      · have h6d : decide ((i6 : Int) ≤ (n : Int)) = true := decide_eq_true (by omega)
        have h6i : (i6 : Int) ≤ (n : Int) := by omega
        have hat : Dl.at16 B S i = Dl.blk B (Dl.six S i) := by rw [Dl.at16, if_pos (by rw [HL.out.2.1]; omega)]
        have HBA := hideIt (HBK.out (Dl.six S i))
        have he : bs (Dl.six S i) = SS.extract i i6 := by rw [← HSS.out, bs_cut, ← hi6, Nat.add_sub_cancel_left]; rfl
        rw [he] at HBA
        obtain ⟨E6, hE6⟩ : ∃ E, SS.extract i i6 = E := ⟨_, rfl⟩
        rw [hE6] at HBA
        clear he
        cases hk : Dl.blk B (Dl.six S i) with
        | none =>
          rw [hk] at HBA hat
          have HBA2 : Hid (∀ w : World, Calls Tryz.prog 38 #[.string BB, .string E6] w fun e w' => e = .returned (.int .i64 (-1)) ∧ Below w.heap.size w w') := HBA
          clear hk HBA
          obtain ⟨E, hE⟩ : ∃ E, SS.extract i i' = E := ⟨_, rfl⟩
          have hEd : E.data.toList = (S.drop i).take 1 := by rw [← hE, ← HSS.out, bs_cut, bs_list, ← hi', Nat.add_sub_cancel_left]
          have hEs : E.size = 1 := by rw [← str_len, hEd, List.length_take, List.length_drop, HL.out.2.1]; omega
          have t1 : ¬ 9223372036854775807 < Y.size + E.size := by omega
          have HQ : Hid (i' ≤ n ∧ told ≤ i' ∧ (Y ++ E).data.toList = (S.drop told).take (i' - told) ∧ M = X.data.toList ++ Dl.tell B S told i' ∧ X.size ≤ 10 + told) := by
            refine hideIt ⟨by omega, by omega, ?_, ?_, hX⟩
            · rw [cat_data, hY, hEd, ← hi', show i + 1 - told = (i - told) + 1 by omega, List.take_add, List.drop_drop, show told + (i - told) = i by omega]
            · rw [ht, Dl.tell_none htl hat, hi']
          have HI := hideIt hi'
          clear hr hY ht hX hYs hEd hEs hat hi' hi6 h6 htl
          go_wp2_with (first | (go_at_call 38; refine (HBA2.out _).mono ?_; rintro e w2 ⟨rfl, hb2⟩))
          go_roundw
          case rel => exact ⟨i', told, X, Y ++ E, HQ.out.2.1, HQ.out.1, rfl, rfl, rfl, HQ.out.2.2.1, HQ.out.2.2.2.1, HQ.out.2.2.2.2, below2 HR.out hb2⟩
          case measure => have := HI.out; simp [intOf]; omega
        | some k =>
          rw [hk] at HBA hat
          have HBA2 : Hid (∀ w : World, Calls Tryz.prog 38 #[.string BB, .string E6] w fun e w' => e = .returned (.int .i64 (k : Int)) ∧ Below w.heap.size w w') := HBA
          clear hk HBA
          have hrl := Dl.run_le hat
          have hk6 := (Dl.at16_some hat).2.1
          rw [HL.out.1] at hrl hk6
          rw [HL.out.2.1] at hrl
          have HT := hideIt ht
          rw [Dl.tell_some htl hat] at HT
          have HRN : Hid (Dl.run B S i k = 16 + Dl.same (S.drop (i + 16)) (B.drop (k + 16))) := hideIt rfl
          obtain ⟨r, hrd⟩ : ∃ r, Dl.run B S i k = r := ⟨_, rfl⟩
          rw [hrd] at hrl HT HRN
          have k0 : decide ((k : Int) < 0) = false := decide_eq_false (by omega)
          have k1 : ¬ (k : Int) < 0 := by omega
          have k2 : (k : Int) ≤ 100000000 := by omega
          have HK : Hid (k + 16 ≤ bn) := hideIt hk6
          have HYX := hideIt (And.intro hY (And.intro hYs hX))
          have HXX := hideIt hrl
          have H6 : Hid (i + 16 ≤ n) := hideIt (by omega)
          clear hr hY ht hX hYs hat hrd hrl hk6 hi' hi6 h6 htl
          go_wp2_with (first | (go_at_call 38; refine (HBA2.out _).mono ?_; rintro e w2 ⟨rfl, hb2⟩))
          have HB2 := hideIt (below2 HR.out hb2)
          clear hb2
          go_loopw [9] (fun t wr => ∃ (c : Nat), 16 ≤ c ∧ i + c ≤ n ∧ k + c ≤ bn ∧ t = .int .i64 c ∧ r = c + Dl.same (S.drop (i + c)) (B.drop (k + c)) ∧ Below w.heap.size w wr) (fun t _ => n - (intOf t).toNat)
          case atStart => exact ⟨16, by omega, H6.out, HK.out, rfl, HRN.out, HB2.out⟩
          case round =>
            obtain ⟨c, hc6, hcn, hcb, rfl, hrun, hrr⟩ := hrel
            clear HB2 HRN
            obtain ⟨y, hy⟩ : ∃ y, i + c = y := ⟨_, rfl⟩
            obtain ⟨x, hxx⟩ : ∃ x, k + c = x := ⟨_, rfl⟩
            have y1' : (i : Int) + (c : Int) = (y : Int) := by omega
            have x1 : (k : Int) + (c : Int) = (x : Int) := by omega
            have cI : (c : Int) ≤ 100000000 := by omega
            have yI : (y : Int) ≤ 100000000 := by omega
            have xI : (x : Int) ≤ 100000000 := by omega
            have HRR := hideIt (fun q => hrr.trans (c := wr.drewN q) ⟨rfl, rfl, rfl, Nat.le_refl _, fun _ _ => rfl⟩)
            have HRR0 := hideIt hrr
            clear hrr
            rw [hy, hxx] at hrun
            by_cases hyn : y < n
            · have hidy : decide ((y : Int) < (n : Int)) = true := decide_eq_true (by omega)
              by_cases hxn : x < bn
              · have hidx : decide ((x : Int) < (bn : Int)) = true := decide_eq_true (by omega)
                have y3 : y < SS.size := by rw [HL.out.2.2.2]; exact hyn
                have x3 : x < BB.size := by rw [HL.out.2.2.1]; exact hxn
                have y2 : (y : Int) < (SS.size : Int) := by omega
                have x2 : (x : Int) < (BB.size : Int) := by omega
                have y4 : (y : Int) < (n : Int) := by omega
                have x4 : (x : Int) < (bn : Int) := by omega
                have hsame := same_two SS BB y x y3 x3
                rw [HD.out.1, HD.out.2] at hsame
                rw [hsame] at hrun
                by_cases hcc : SS[y] = BB[x]
                · rw [if_pos hcc] at hrun
                  have hc1 : ((SS[y]'y3).toNat : Int) = ((BB[x]'x3).toNat : Int) := by rw [hcc]
                  have HE : Hid (r = (c + 1) + Dl.same (S.drop (i + (c + 1))) (B.drop (k + (c + 1))) ∧ 16 ≤ c + 1 ∧ i + (c + 1) ≤ n ∧ k + (c + 1) ≤ bn) := by
                    refine hideIt ⟨?_, by omega, by omega, by omega⟩
                    rw [hrun, show i + (c + 1) = y + 1 by omega, show k + (c + 1) = x + 1 by omega]; omega
                  clear hrun hsame hcc hy hxx hc6
                  go_wp2
                  go_quiet (fail)
                  go_wp2
                  go_roundw
                  case rel => exact ⟨c + 1, HE.out.2.1, HE.out.2.2.1, HE.out.2.2.2, by go_num, HE.out.1, HRR.out _⟩
                  case measure => simp [intOf]; omega
                · rw [if_neg hcc] at hrun
                  have hrc : r = c := by omega
                  obtain ⟨u, hu⟩ : ∃ u, (BB[x]'x3).toNat = u := ⟨_, rfl⟩
                  obtain ⟨v, hv⟩ : ∃ v, (SS[y]'y3).toNat = v := ⟨_, rfl⟩
                  have hne : ¬ v = u := by
                    intro e
                    apply hcc
                    rw [← hu, ← hv] at e
                    exact UInt8.toNat_inj.1 e
                  have u1 : ((BB[x]'x3).toNat : Int) = (u : Int) := by rw [hu]
                  have v1 : ((SS[y]'y3).toNat : Int) = (v : Int) := by rw [hv]
                  have hne1 : ¬ (v : Int) = (u : Int) := by omega
                  have hne2 : decide ((v : Int) = (u : Int)) = false := decide_eq_false hne1
                  have hne3 : ((v : Int) == (u : Int)) = false := beq_eq_false_iff_ne.2 hne1
                  clear hsame hcc hu hv hne
                  have HRC := hideIt hrc
                  have hYl : Y.size ≤ 100000000 := by have := HYX.out.2.1; omega
                  obtain ⟨q, hq⟩ : ∃ q, 2 * c - 1 = q := ⟨_, rfl⟩
                  obtain ⟨c2, hc2⟩ : ∃ q, 2 * c = q := ⟨_, rfl⟩
                  have q1 : (2 : Int) * (c : Int) = (c2 : Int) := by omega
                  have q2 : (c2 : Int) - 1 = (q : Int) := by omega
                  have q3 : (c2 : Int) ≤ 200000000 := by omega
                  have q4 : (q : Int) ≤ 200000000 := by omega
                  have G1 := hideIt (fun w => HPU.out Y.data.toList w (by rw [str_len]; exact hYl))
                  rw [bs_data] at G1
                  have G2 := hideIt (fun w => HNU.out q w (by omega))
                  have G3 := hideIt (fun w => HNU.out k w (by omega))
                  have aL := putL_len Y.data.toList (by rw [str_len]; exact hYl)
                  rw [str_len] at aL
                  obtain ⟨A, hA⟩ : ∃ A, bs (Dl.putL Y.data.toList) = A := ⟨_, rfl⟩
                  obtain ⟨P, hP⟩ : ∃ A, bs (Cd.numL q) = A := ⟨_, rfl⟩
                  obtain ⟨K, hK⟩ : ∃ A, bs (Cd.numL k) = A := ⟨_, rfl⟩
                  have sA : A.size ≤ 5 + Y.size := by rw [bsz hA]; exact aL
                  have sP : P.size ≤ 5 := by rw [bsz hP]; exact numL_four q (by omega)
                  have sK : K.size ≤ 5 := by rw [bsz hK]; exact numL_four k (by omega)
                  rw [hA] at G1
                  rw [hP] at G2
                  rw [hK] at G3
                  have sX : X.size ≤ 10 + told := HYX.out.2.2
                  have t1 : ¬ 9223372036854775807 < A.size + P.size := by omega
                  have t2 : ¬ 9223372036854775807 < A.size + P.size + K.size := by omega
                  have t3 : ¬ 9223372036854775807 < X.size + (A.size + P.size + K.size) := by omega
                  have HQ : Hid (y ≤ n ∧ M = (X ++ (A ++ P ++ K)).data.toList ++ Dl.tell B S y y ∧ (X ++ (A ++ P ++ K)).size ≤ 10 + y ∧ i < y) := by
                    refine hideIt ⟨by omega, ?_, ?_, by omega⟩
                    · rw [HT.out, HRC.out, hq, hy, ← HYX.out.1]
                      simp only [cat_data, ← hA, ← hP, ← hK, bs_list, List.append_assoc]
                    · simp only [ByteArray.size_append]; have := HYX.out.2.1; omega
                  clear hy hxx hA hP hK hq hc2 sX sA sP sK aL hYl hrun hrc hc6 hcn hcb
                  go_wp2
                  go_quiet (fail)
                  go_wp2_with (first | (go_at_call 39; refine (G1.out _).mono ?_; rintro e w3 ⟨rfl, hb3⟩) | (go_at_call_of 37 (Value.int IntKind.u64 (q : Int)); refine (G2.out _).mono ?_; rintro e w4 ⟨rfl, hb4⟩) | (go_at_call 37; refine (G3.out _).mono ?_; rintro e w5 ⟨rfl, hb5⟩))
                  go_roundw
                  case rel => exact ⟨y, y, _, ⟨#[]⟩, Nat.le_refl _, HQ.out.1, rfl, rfl, rfl, by simp, HQ.out.2.1, HQ.out.2.2.1, below2 (below2 (below2 (HRR.out _) hb3) hb4) hb5⟩
                  case measure => have := HQ.out; simp [intOf]; omega
              · have hidx : decide ((x : Int) < (bn : Int)) = false := decide_eq_false (by omega)
                have hx4 : ¬ (x : Int) < (bn : Int) := by omega
                rw [same_end S B y x (by rw [HL.out.1]; omega)] at hrun
                have hrc : r = c := by omega
                have HRC := hideIt hrc
                have hYl : Y.size ≤ 100000000 := by have := HYX.out.2.1; omega
                obtain ⟨q, hq⟩ : ∃ q, 2 * c - 1 = q := ⟨_, rfl⟩
                obtain ⟨c2, hc2⟩ : ∃ q, 2 * c = q := ⟨_, rfl⟩
                have q1 : (2 : Int) * (c : Int) = (c2 : Int) := by omega
                have q2 : (c2 : Int) - 1 = (q : Int) := by omega
                have q3 : (c2 : Int) ≤ 200000000 := by omega
                have q4 : (q : Int) ≤ 200000000 := by omega
                have G1 := hideIt (fun w => HPU.out Y.data.toList w (by rw [str_len]; exact hYl))
                rw [bs_data] at G1
                have G2 := hideIt (fun w => HNU.out q w (by omega))
                have G3 := hideIt (fun w => HNU.out k w (by omega))
                have aL := putL_len Y.data.toList (by rw [str_len]; exact hYl)
                rw [str_len] at aL
                obtain ⟨A, hA⟩ : ∃ A, bs (Dl.putL Y.data.toList) = A := ⟨_, rfl⟩
                obtain ⟨P, hP⟩ : ∃ A, bs (Cd.numL q) = A := ⟨_, rfl⟩
                obtain ⟨K, hK⟩ : ∃ A, bs (Cd.numL k) = A := ⟨_, rfl⟩
                have sA : A.size ≤ 5 + Y.size := by rw [bsz hA]; exact aL
                have sP : P.size ≤ 5 := by rw [bsz hP]; exact numL_four q (by omega)
                have sK : K.size ≤ 5 := by rw [bsz hK]; exact numL_four k (by omega)
                rw [hA] at G1
                rw [hP] at G2
                rw [hK] at G3
                have sX : X.size ≤ 10 + told := HYX.out.2.2
                have t1 : ¬ 9223372036854775807 < A.size + P.size := by omega
                have t2 : ¬ 9223372036854775807 < A.size + P.size + K.size := by omega
                have t3 : ¬ 9223372036854775807 < X.size + (A.size + P.size + K.size) := by omega
                have HQ : Hid (y ≤ n ∧ M = (X ++ (A ++ P ++ K)).data.toList ++ Dl.tell B S y y ∧ (X ++ (A ++ P ++ K)).size ≤ 10 + y ∧ i < y) := by
                  refine hideIt ⟨by omega, ?_, ?_, by omega⟩
                  · rw [HT.out, HRC.out, hq, hy, ← HYX.out.1]
                    simp only [cat_data, ← hA, ← hP, ← hK, bs_list, List.append_assoc]
                  · simp only [ByteArray.size_append]; have := HYX.out.2.1; omega
                clear hy hxx hA hP hK hq hc2 sX sA sP sK aL hYl hrun hrc hc6 hcn hcb
                go_wp2
                go_quiet (fail)
                go_wp2_with (first | (go_at_call 39; refine (G1.out _).mono ?_; rintro e w3 ⟨rfl, hb3⟩) | (go_at_call_of 37 (Value.int IntKind.u64 (q : Int)); refine (G2.out _).mono ?_; rintro e w4 ⟨rfl, hb4⟩) | (go_at_call 37; refine (G3.out _).mono ?_; rintro e w5 ⟨rfl, hb5⟩))
                go_roundw
                case rel => exact ⟨y, y, _, ⟨#[]⟩, Nat.le_refl _, HQ.out.1, rfl, rfl, rfl, by simp, HQ.out.2.1, HQ.out.2.2.1, below2 (below2 (below2 (HRR.out _) hb3) hb4) hb5⟩
                case measure => have := HQ.out; simp [intOf]; omega
            · have hidy : decide ((y : Int) < (n : Int)) = false := decide_eq_false (by omega)
              have hy4 : ¬ (y : Int) < (n : Int) := by omega
              rw [same_end S B y x (by rw [HL.out.2.1]; omega)] at hrun
              have hrc : r = c := by omega
              have HRC := hideIt hrc
              have hYl : Y.size ≤ 100000000 := by have := HYX.out.2.1; omega
              obtain ⟨q, hq⟩ : ∃ q, 2 * c - 1 = q := ⟨_, rfl⟩
              obtain ⟨c2, hc2⟩ : ∃ q, 2 * c = q := ⟨_, rfl⟩
              have q1 : (2 : Int) * (c : Int) = (c2 : Int) := by omega
              have q2 : (c2 : Int) - 1 = (q : Int) := by omega
              have q3 : (c2 : Int) ≤ 200000000 := by omega
              have q4 : (q : Int) ≤ 200000000 := by omega
              have G1 := hideIt (fun w => HPU.out Y.data.toList w (by rw [str_len]; exact hYl))
              rw [bs_data] at G1
              have G2 := hideIt (fun w => HNU.out q w (by omega))
              have G3 := hideIt (fun w => HNU.out k w (by omega))
              have aL := putL_len Y.data.toList (by rw [str_len]; exact hYl)
              rw [str_len] at aL
              obtain ⟨A, hA⟩ : ∃ A, bs (Dl.putL Y.data.toList) = A := ⟨_, rfl⟩
              obtain ⟨P, hP⟩ : ∃ A, bs (Cd.numL q) = A := ⟨_, rfl⟩
              obtain ⟨K, hK⟩ : ∃ A, bs (Cd.numL k) = A := ⟨_, rfl⟩
              have sA : A.size ≤ 5 + Y.size := by rw [bsz hA]; exact aL
              have sP : P.size ≤ 5 := by rw [bsz hP]; exact numL_four q (by omega)
              have sK : K.size ≤ 5 := by rw [bsz hK]; exact numL_four k (by omega)
              rw [hA] at G1
              rw [hP] at G2
              rw [hK] at G3
              have sX : X.size ≤ 10 + told := HYX.out.2.2
              have t1 : ¬ 9223372036854775807 < A.size + P.size := by omega
              have t2 : ¬ 9223372036854775807 < A.size + P.size + K.size := by omega
              have t3 : ¬ 9223372036854775807 < X.size + (A.size + P.size + K.size) := by omega
              have HQ : Hid (y ≤ n ∧ M = (X ++ (A ++ P ++ K)).data.toList ++ Dl.tell B S y y ∧ (X ++ (A ++ P ++ K)).size ≤ 10 + y ∧ i < y) := by
                refine hideIt ⟨by omega, ?_, ?_, by omega⟩
                · rw [HT.out, HRC.out, hq, hy, ← HYX.out.1]
                  simp only [cat_data, ← hA, ← hP, ← hK, bs_list, List.append_assoc]
                · simp only [ByteArray.size_append]; have := HYX.out.2.1; omega
              clear hy hxx hA hP hK hq hc2 sX sA sP sK aL hYl hrun hrc hc6 hcn hcb
              go_wp2
              go_quiet (fail)
              go_wp2_with (first | (go_at_call 39; refine (G1.out _).mono ?_; rintro e w3 ⟨rfl, hb3⟩) | (go_at_call_of 37 (Value.int IntKind.u64 (q : Int)); refine (G2.out _).mono ?_; rintro e w4 ⟨rfl, hb4⟩) | (go_at_call 37; refine (G3.out _).mono ?_; rintro e w5 ⟨rfl, hb5⟩))
              go_roundw
              case rel => exact ⟨y, y, _, ⟨#[]⟩, Nat.le_refl _, HQ.out.1, rfl, rfl, rfl, by simp, HQ.out.2.1, HQ.out.2.2.1, below2 (below2 (below2 (HRR.out _) hb3) hb4) hb5⟩
              case measure => have := HQ.out; simp [intOf]; omega
      · have h6d : decide ((i6 : Int) ≤ (n : Int)) = false := decide_eq_false (by omega)
        have h6i : ¬ (i6 : Int) ≤ (n : Int) := by omega
        have hat : Dl.at16 B S i = none := by rw [Dl.at16, if_neg (by rw [HL.out.2.1]; omega)]
        obtain ⟨E, hE⟩ : ∃ E, SS.extract i i' = E := ⟨_, rfl⟩
        have hEd : E.data.toList = (S.drop i).take 1 := by rw [← hE, ← HSS.out, bs_cut, bs_list, ← hi', Nat.add_sub_cancel_left]
        have hEs : E.size = 1 := by rw [← str_len, hEd, List.length_take, List.length_drop, HL.out.2.1]; omega
        have t1 : ¬ 9223372036854775807 < Y.size + E.size := by omega
        have HQ : Hid (i' ≤ n ∧ told ≤ i' ∧ (Y ++ E).data.toList = (S.drop told).take (i' - told) ∧ M = X.data.toList ++ Dl.tell B S told i' ∧ X.size ≤ 10 + told) := by
          refine hideIt ⟨by omega, by omega, ?_, ?_, hX⟩
          · rw [cat_data, hY, hEd, ← hi', show i + 1 - told = (i - told) + 1 by omega, List.take_add, List.drop_drop, show told + (i - told) = i by omega]
          · rw [ht, Dl.tell_none htl hat, hi']
        have HI := hideIt hi'
        clear hr hY ht hX hYs hEd hEs hat hi' hi6 h6 htl
        go_wp2
        go_roundw
        case rel => exact ⟨i', told, X, Y ++ E, HQ.out.2.1, HQ.out.1, rfl, rfl, rfl, HQ.out.2.2.1, HQ.out.2.2.2.1, HQ.out.2.2.2.2, HR.out⟩
        case measure => have := HI.out; simp [intOf]; omega
    · have hid : decide ((i : Int) < (n : Int)) = false := by simp; omega
      obtain rfl : i = n := by omega
      have HT := hideIt ht
      rw [Dl.tell_end (by rw [HL.out.2.1]; omega)] at HT
      have hY2 : Y.data.toList = S.drop told := by rw [hY, List.take_of_length_le (by rw [List.length_drop, HL.out.2.1]; omega)]
      have hYl : Y.size ≤ 100000000 := by omega
      have G1 := hideIt (fun w => HPU.out Y.data.toList w (by rw [str_len]; exact hYl))
      rw [bs_data] at G1
      have aL := putL_len Y.data.toList (by rw [str_len]; exact hYl)
      rw [str_len] at aL
      obtain ⟨A, hA⟩ : ∃ A, bs (Dl.putL Y.data.toList) = A := ⟨_, rfl⟩
      have sA : A.size ≤ 5 + Y.size := by rw [bsz hA]; exact aL
      rw [hA] at G1
      have t1 : ¬ 9223372036854775807 < X.size + A.size := by omega
      have HQ : Hid (bs M = X ++ A) := hideIt (by rw [HT.out, ← hY2, ← bs_data (X ++ A), cat_data, ← hA, bs_list])
      clear hr hY ht hYs hX hA hY2 aL sA hYl
      go_wp2_with (first | (go_at_call 39; refine (G1.out _).mono ?_; rintro e w3 ⟨rfl, hb3⟩))
      go_ret
      exact ⟨by rw [HQ.out]; rfl, below2 HR.out hb3⟩
end Go.Proofs.YtdbbgpcjclmelaaGreatDoor.De
