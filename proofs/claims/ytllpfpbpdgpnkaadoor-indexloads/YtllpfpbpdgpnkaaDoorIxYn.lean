/- Indexes: the document's reading of an index: walked. -/
import Derived.Test.YtllpfpbpdgpnkaaDoorIxYl
namespace Go.Proofs.YtllpfpbpdgpnkaaDoor.Ix
open Cb Go.RowKit Go.Shelf
/-- What bytes are read as, by the document. -/
def RlTo (w : World) (s : List UInt8) (e : Ending) (w' : World) : Prop := Below w.heap.size w w' ∧ ((ldE s = 0 ∧ ∃ m v, ldM s = some m ∧ e = .returned (.tuple #[.string (packR s), v, .int .i64 0]) ∧ SRow w' v m) ∨ (¬ ldE s = 0 ∧ e = .returned (.tuple #[.string ⟨#[]⟩, .slice none 0 0, .int .i64 (ldE s : Int)])))
theorem RlTo.bad {w w' : World} {s : List UInt8} {k : Nat} (h : ldE s = k) (hk : ¬ k = 0) (hb : Below w.heap.size w w') : RlTo w s (.returned (.tuple #[.string ⟨#[]⟩, .slice none 0 0, .int .i64 (k : Int)])) w' := by
  subst h
  exact ⟨hb, .inr ⟨hk, rfl⟩⟩
theorem RlTo.good {w w' : World} {s : List UInt8} {m : List Sp} {v : Value} (h : ldE s = 0) (hm : ldM s = some m) (hi : SRow w' v m) (hb : Below w.heap.size w w') : RlTo w s (.returned (.tuple #[.string (packR s), v, .int .i64 0])) w' := ⟨hb, .inl ⟨h, m, v, hm, rfl, hi⟩⟩
theorem refSum_any (M : List UInt8) (w : World) (h : M.length < 100000000) : Calls Tryd.prog 14 #[.string (bs M)] w fun e w' => e = .returned (.string (bs (shaL M))) ∧ Below w.heap.size w w' := by
  have := Sa.ref_any (bs M) w (by rw [bs_size]; exact h)
  rw [bs_list, show Sa.Sha.sha M = bs (shaL M) from (bs_data _).symm] at this
  exact this
theorem SRow.one {w : World} {B n : Nat} {t : TypeId} {v : Value} {l : List Sp} {x : Sp} (h : w.ownsRow B t 2 v (n + 1) (spsV l ++ [.string x.d, .int .i64 x.pl])) (hn : l.length = n) : w.ownsRow B t 2 v (l ++ [x]).length (spsV (l ++ [x])) := by
  rw [spsV_snoc, List.length_append, hn]
  exact h
/-- What lies at the end of a reading of a number. -/
theorem num4_at (s : List UInt8) (a i : Nat) (h : a + 32 + i < s.length) : numR ((s.drop (a + 32)).take (i + 1)) = numR ((s.drop (a + 32)).take i) * 256 + (s[a + 32 + i]'h).toNat := by
  have hi : i < (s.drop (a + 32)).length := by rw [List.length_drop]; omega
  rw [List.take_succ_eq_append_getElem hi, numR_snoc, List.getElem_drop]
set_option maxHeartbeats 1600000 in
set_option maxRecDepth 100000 in
theorem refload_any (s : List UInt8) (w : World) (hs : s.length ≤ 74000) : Calls Tryd.prog 17 #[.string (bs s)] w fun e w' => RlTo w s e w' := by
  obtain ⟨i0, hi0, hz0, hz1, hz2⟩ := info_parts infoJ
  have HE : Hid (ldE s = if s.length < 1102 then 4 else if ¬ shaL (s.take (s.length - 32)) = s.drop (s.length - 32) then 80
    else if ¬ s.take 14 = lineL ∨ ¬ (s.length - 1102) % 36 = 0 then 6 else if 2048 < (s.length - 1102) / 36 then 3
    else if (ldM s).isSome = true then 0 else 6) := hideIt rfl
  have hsz : (bs s).size = s.length := bs_size s
  by_cases h1 : s.length < 1102
  · have HE2 : Hid (ldE s = 4) := hideIt (by rw [HE.out, if_pos h1])
    have g1 : ((bs s).size : Int) < 1102 := by omega
    generalize bs s = S at g1
    clear HE hsz h1 hs
    go_enter Tryd.func17, Tryd.ntmps17
    go_wp2
    go_ret3
    exact RlTo.bad (k := 4) HE2.out (by decide) (Below.refl _ _)
  · rw [if_neg h1] at HE
    obtain ⟨n, hn⟩ : ∃ n, s.length - 32 = n := ⟨_, rfl⟩
    obtain ⟨P, hP⟩ : ∃ P, s.take n = P := ⟨_, rfl⟩
    obtain ⟨D, hD⟩ : ∃ D, s.drop n = D := ⟨_, rfl⟩
    have hPl : P.length = n := by rw [← hP, List.length_take]; omega
    have t1 := take_bs s n
    have t2 := drop_bs s n
    rw [hP] at t1
    rw [hD] at t2
    rw [hn, hP, hD] at HE
    have HB0 : Hid (Below w.heap.size w w.drew) := hideIt (Below.refl _ w).drew
    have HBA : Hid (∀ w1, Below w.drew.heap.size w.drew w1 → Below w.heap.size w w1) := hideIt (fun w1 h => below2 HB0.out h)
    have HSU := hideIt (fun w => refSum_any P w (by omega))
    have t3 := take_bs s 14
    have t4 := mid_bs s 14 46
    rw [show bs ((s.drop 14).take (46 - 14)) = packR s from rfl] at t4
    have hpz : (packR s).size = 32 := by rw [packR, bs_size, List.length_take, List.length_drop]; omega
    obtain ⟨r, hr⟩ : ∃ r, s.length - 1102 = r := ⟨_, rfl⟩
    obtain ⟨k, hk⟩ : ∃ k, r / 36 = k := ⟨_, rfl⟩
    rw [hr, hk] at HE
    have hk2 : k ≤ 2048 := by omega
    have hspk : spotsOf s = rdS (s.drop 1070) k := by rw [spotsOf, hr, hk]
    have HRL := hideIt (fun v w (h : SRow w v (spotsOf s)) => refsorted_any (packR s) v (spotsOf s) w h hpz (by rw [hspk, rdS_len]; exact hk2))
    have HRE := hideIt (fun v m w h h1 h2 => refencode_any (packR s) v m w h hpz h1 h2)
    have HSR := hideIt (fun m (h : srtF [] (spotsOf s) = some m) => srt_right h)
    have HLM : Hid (ldM s = match srtF [] (spotsOf s) with
      | none => none
      | some m => if encL (packR s) m = s then some m else none) := hideIt rfl
    have hsl : (spotsOf s).length = k := by rw [hspk, rdS_len]
    have n1 : ¬ ((bs s).size : Int) < 1102 := by omega
    have n2 : ((bs s).size : Int) - 32 = (n : Int) := by omega
    have n3 : (n : Int) ≤ ((bs s).size : Int) := by omega
    have n4 : ((bs s).size : Int) ≤ 74000 := by omega
    have n5 : (46 : Int) ≤ ((bs s).size : Int) := by omega
    have n8 : (14 : Int) ≤ ((bs s).size : Int) := by omega
    have r0 : (n : Int) - 1070 = (r : Int) := by omega
    have r3 : (r : Int) / 36 = (k : Int) := by omega
    have r4 : ¬ (2048 : Int) < (k : Int) := by omega
    have r4n : ¬ 2048 < k := by omega
    have r4d : decide ((2048 : Int) < (k : Int)) = false := decide_eq_false r4
    have hcm := bs_eq (shaL P) D
    have e2 : (⟨#[112, 111, 108, 108, 97, 114, 100, 32, 105, 110, 100, 101, 120, 10]⟩ : ByteArray) = bs lineL := rfl
    by_cases h2 : shaL P = D
    · rw [if_neg (by simpa using h2)] at HE
      rw [decide_eq_true h2] at hcm
      have hcm2 : (bs (shaL P)).toList = (bs D).toList := by rw [h2]
      generalize bs D = DD at t2 hcm hcm2
      generalize bs (shaL P) = SS at HSU hcm hcm2
      generalize bs P = PP at t1 HSU
      by_cases h3 : s.take 14 = lineL
      · have l1 : ((bs (s.take 14)).toList == [112, 111, 108, 108, 97, 114, 100, 32, 105, 110, 100, 101, 120, 10]) = true := by
          rw [h3, ByteArray.toList_eq, bs_list]; decide
        have l2 : (bs (s.take 14)).toList = [112, 111, 108, 108, 97, 114, 100, 32, 105, 110, 100, 101, 120, 10] := by
          rw [h3, ByteArray.toList_eq, bs_list]; rfl
        generalize bs (s.take 14) = LL at t3 l1 l2
        obtain ⟨z, hz⟩ : ∃ z, r % 36 = z := ⟨_, rfl⟩
        rw [hz] at HE
        have r2 : (r : Int) % 36 = (z : Int) := by omega
        by_cases h4 : z = 0
        · subst h4
          have r2 : (r : Int) % 36 = 0 := by omega
          rw [if_neg (by simp [h3]), if_neg r4n] at HE
          have hrk : r = k * 36 := by omega
          have hN4 := num4_at s
          have HGA : Hid (∀ S, bs s = S → ∀ p (h : p < s.length) (h2 : p < S.size), S[p]'h2 = s[p]) := hideIt (fun S hS p h h2 => by subst hS; rfl)
          have HMB := hideIt (mid_bs s)
          have HRD : Hid (∀ i, rd1 (s.drop 1070) i = ⟨bs ((s.drop (1070 + i * 36)).take 32), (numR ((s.drop (1070 + i * 36 + 32)).take 4) : Int)⟩) := hideIt (fun i => by
            rw [rd1, List.drop_drop, List.drop_drop, Nat.add_assoc])
          have HN4 := hideIt hN4
          have HRN := hideIt (rdS_next (s.drop 1070))
          have HRZ := hideIt (rdS_len (s.drop 1070))
          have HNL := hideIt (fun (L : List UInt8) (h : L.length ≤ 4) => numR_le L h)
          have HSK := hideIt hspk
          obtain ⟨S, hS⟩ : ∃ S, bs s = S := ⟨_, rfl⟩
          have HG2 := hideIt (HGA.out S hS)
          obtain ⟨PK, hPK⟩ : ∃ PK, packR s = PK := ⟨_, rfl⟩
          have HPK := hideIt hPK
          have HSE := hideIt (fun m => bs_eq (encL (packR s) m) s)
          have HSN := hideIt (fun m => bs_ne (a := encL (packR s) m) (b := s))
          rw [hS] at t1 t2 t3 t4 n1 n2 n3 n4 n5 n8 hsz HMB HSE HSN ⊢
          rw [hPK] at t4 HRL HRE HLM HSE HSN
          have HSZ := hideIt hsz
          have HO0 : Hid (∀ w1 : World, Below w.heap.size w w1 → (w1.alloc (.cells #[] 37)).ownsRow w.heap.size 37 2 (.slice (some ⟨w1.heap.size, 0, none⟩) 0 0) 0 (spsV (rdS (s.drop 1070) 0))) := hideIt (fun w1 hb => new_empty _ w1 _ hb.size)
          have HKR := hideIt hrk
          have HNR : Hid (n = 1070 + k * 36) := hideIt (by omega)
          have HSN0 : Hid (S.size = n + 32) := hideIt (by omega)
          have HSL : Hid (s.length = n + 32) := hideIt (by omega)
          clear hn hP hD hPl hsz hspk hsl hpz h1 h2 h3 hz hk hr hS hPK HGA e2 hN4 hrk hs
          go_enter Tryd.func17, Tryd.ntmps17
          go_wp2
          go_region_law (first | (go_simp; go_at_call 14; refine (HSU.out _).mono ?_; rintro e w1 ⟨rfl, hb1⟩; dsimp only; have B1 := hideIt (HBA.out _ hb1); clear hb1))
          go_wp2
          go_loopw [6, 7, 8, 9] (fun t6 t7 _ _ wr => ∃ i : Nat, i ≤ k ∧ t7 = .int .i64 ((1070 + i * 36 : Nat) : Int) ∧ wr.ownsRow w.heap.size 37 2 t6 i (spsV (rdS (s.drop 1070) i)) ∧ Below w.heap.size w wr) (fun _ t7 _ _ _ => 1070 + k * 36 - (intOf t7).toNat)
          case atStart => exact ⟨0, by omega, rfl, HO0.out _ B1.out, B1.out.alloc B1.out.size _⟩
          case round =>
            obtain ⟨i, hi, rfl, ho, hb⟩ := hrel
            have HB := hideIt hb
            have hws : w.heap.size ≤ wr.heap.size := hb.size
            obtain ⟨a, ha⟩ : ∃ a, 1070 + i * 36 = a := ⟨_, rfl⟩
            rw [ha]
            by_cases hlt : i < k
            · have hab : a + 36 ≤ n := by have := HNR.out; omega
              have a1 : (a : Int) < (n : Int) := by omega
              have a2 : decide ((a : Int) < (n : Int)) = true := decide_eq_true a1
              have a3 : (a : Int) ≤ 74000 := by have := HSN0.out; omega
              have HA := hideIt ha
              have HO := hideIt ho
              clear ho hb ha
              go_wp2
              generalize wr = W0 at *
              go_loopw [8, 9] (fun t8 t9 wq => ∃ j : Nat, j ≤ 4 ∧ t9 = .int .i64 ((32 + j : Nat) : Int) ∧ t8 = .int .i64 (numR ((s.drop (a + 32)).take j) : Int) ∧ wq = W0) (fun _ t9 _ => 36 - (intOf t9).toNat)
              case atStart => exact ⟨0, by omega, rfl, rfl, rfl⟩
              case round =>
                obtain ⟨j, hj, rfl, rfl, rfl⟩ := hrel
                obtain ⟨b, hbj⟩ : ∃ b, 32 + j = b := ⟨_, rfl⟩
                rw [hbj]
                by_cases hlt2 : j < 4
                · have b1 : (b : Int) < 36 := by omega
                  have b2 : decide ((b : Int) < 36) = true := decide_eq_true b1
                  obtain ⟨p, hp⟩ : ∃ p, a + 32 + j = p := ⟨_, rfl⟩
                  have p1 : (a : Int) + (b : Int) = (p : Int) := by omega
                  have p2 : p < s.length := by rw [HSL.out]; omega
                  have p3 : p < S.size := by rw [HSN0.out]; omega
                  have p4 : (p : Int) < (S.size : Int) := by omega
                  have hnx := HN4.out a j (by rw [hp]; exact p2)
                  have hga := HG2.out p p2 p3
                  simp only [hp] at hnx
                  rw [← hga] at hnx
                  have hle := HNL.out ((s.drop (a + 32)).take j) (by simp; omega)
                  obtain ⟨y, hy⟩ : ∃ y, S[p]'p3 = y := ⟨_, rfl⟩
                  rw [hy] at hnx
                  have HNX := hideIt hnx
                  generalize numR ((s.drop (a + 32)).take j) = q at HNX hle
                  have hu8 := y.toNat_lt
                  obtain ⟨q2, hq2⟩ : ∃ q2, q * 256 = q2 := ⟨_, rfl⟩
                  have hq3 : (q : Int) * 256 = (q2 : Int) := by omega
                  obtain ⟨q4, hq4⟩ : ∃ q4, q2 + y.toNat = q4 := ⟨_, rfl⟩
                  have hq5 : (q2 : Int) + (y.toNat : Int) = (q4 : Int) := by omega
                  have hq6 : (q4 : Int) ≤ 2000000000000 := by omega
                  have hq7 : (q2 : Int) ≤ 1100000000000 := by omega
                  have HQ : Hid (q * 256 + y.toNat = q4) := hideIt (by omega)
                  have HBJ := hideIt hbj
                  have b5 : (b : Int) ≤ 36 := by omega
                  clear hnx hga hp hq2 hq4 hbj
                  go_wp2
                  go_roundw
                  case rel => exact ⟨j + 1, by omega, by have := HBJ.out; go_num, by rw [HNX.out, HQ.out], by first | rfl | trivial⟩
                  case measure => have := HBJ.out; simp [intOf]; omega
                · have b2 : decide ((b : Int) < 36) = false := decide_eq_false (by omega)
                  have b3 : ¬ (b : Int) < 36 := by omega
                  obtain rfl : j = 4 := by omega
                  obtain ⟨c, hc⟩ : ∃ c, a + 32 = c := ⟨_, rfl⟩
                  have c1 : (a : Int) + 32 = (c : Int) := by omega
                  have c2 : (c : Int) ≤ (S.size : Int) := by have := HSN0.out; omega
                  have c3 : (a : Int) ≤ (c : Int) := by omega
                  have hmb := HMB.out a c
                  rw [show c - a = 32 by omega] at hmb
                  rw [hc]
                  have HRX : Hid (rd1 (s.drop 1070) i = ⟨bs ((s.drop a).take 32), (numR ((s.drop c).take 4) : Int)⟩) := hideIt (by rw [HRD.out, HA.out, hc])
                  generalize bs ((s.drop a).take 32) = X at hmb HRX
                  generalize numR ((s.drop c).take 4) = q at HRX
                  have HRX2 : Hid (rdS (s.drop 1070) (i + 1) = rdS (s.drop 1070) i ++ [⟨X, (q : Int)⟩]) := hideIt (by rw [HRN.out, HRX.out])
                  have HFI : Hid (∀ (v' : Value) (w' : World), w'.ownsRow w.heap.size 37 2 v' (i + 1) (spsV (rdS (s.drop 1070) i) ++ [.string X, .int .i64 (q : Int)]) → w'.ownsRow w.heap.size 37 2 v' (i + 1) (spsV (rdS (s.drop 1070) (i + 1)))) := hideIt (fun v' w' h => by rw [HRX2.out, spsV_snoc]; exact h)
                  have HBB : Hid (∀ w', (wr.alloc (.cells #[.string X, .int .i64 (q : Int)] 37)).grownBy w' u6.ownBlock → Below w.heap.size w w') := hideIt (fun w' hg => (HB.out.alloc hws _).grown hg (by simp; omega) (row_ge HO.out))
                  generalize spsV (rdS (s.drop 1070) i) = xs at HO HFI
                  clear hc hbj
                  go_wp2_with (first | (at_builtin; refine wpList_append_own _ rfl (.tmp 58) (.tmp 66) 23 rfl w.heap.size 37 i0 (.agg #[.string ⟨#[]⟩, .int .i64 0]) 2 24 Tryd.underlying23 hi0 hz0 hz1 hz2 rfl (by decide) _ i xs rfl (HO.out.alloc _) ⟨wr.heap.size, 0, none⟩ 1 1 [.string X, .int .i64 (q : Int)] rfl rfl (two_new X (q : Int) _) (fun u hu => by simp at hu; rcases hu with rfl | rfl <;> rfl) (by unfold maxLen; omega) (by omega) (by simp; omega) ?_; intro v1 w1 hown1 hg1 _; have G1 := hideIt (HFI.out _ _ hown1); have B2 := hideIt (HBB.out _ hg1); clear hown1 hg1))
                  go_roundw
                  case rel => exact ⟨i + 1, by omega, by have := HA.out; go_num, G1.out, B2.out⟩
                  case measure => have := HA.out; have := HNR.out; simp [intOf]; omega
            · have hin : i = k := by omega
              have a2 : decide ((a : Int) < (n : Int)) = false := decide_eq_false (by have := HNR.out; omega)
              have a1 : ¬ (a : Int) < (n : Int) := by have := HNR.out; omega
              have hro : SRow wr u6 (spotsOf s) := by
                rw [HSK.out]
                rw [hin] at ho
                refine SRow.of_row (B := w.heap.size) (t := 37) ?_
                rw [HRZ.out]
                exact ho
              have HRO := hideIt hro
              clear hro ho hb ha hin
              cases hsr : srtF [] (spotsOf s) with
              | none =>
                rw [hsr] at HRL HLM
                have HE2 : Hid (ldE s = 6) := hideIt (by rw [HE.out, HLM.out]; rfl)
                clear hsr HLM HSR
                go_wp2_with (first | (go_at_call 9; refine (HRL.out _ _ HRO.out).mono ?_; rintro e w3 ⟨hb3, he3⟩; obtain rfl := he3; have B3 := hideIt (below2 HB.out hb3); clear hb3))
                go_ret3
                exact RlTo.bad (k := 6) HE2.out (by decide) B3.out
              | some m =>
                rw [hsr] at HRL HLM
                obtain ⟨hrt, hup, hml⟩ := HSR.out m hsr
                have hml2 : m.length ≤ 2048 := by rw [hml, HSK.out, HRZ.out]; omega
                have HRE2 := hideIt (fun v w h => HRE.out v m w h hrt hml2)
                have HLM2 : Hid (ldM s = if encL PK m = s then some m else none) := HLM
                have hse := HSE.out m
                have hsn := HSN.out m
                by_cases h5 : encL PK m = s
                · have HL3 : Hid (ldM s = some m) := hideIt (by rw [HLM2.out, if_pos h5])
                  have HE2 : Hid (ldE s = 0) := hideIt (by rw [HE.out, HL3.out]; rfl)
                  rw [decide_eq_true h5] at hse
                  have HH5 := hideIt h5
                  clear hsn hsr HLM HSR HLM2 hrt hup hml hml2 h5
                  generalize bs (encL PK m) = Z at HRE2 hse
                  have hse2 : Z.toList = S.toList := by simpa using hse
                  go_wp2_with (first
                    | (go_at_call 9; refine (HRL.out _ _ HRO.out).mono ?_; rintro e w3 ⟨hb3, v3, he3, hr3⟩; obtain rfl := he3; have R3 := hideIt hr3; have B3 := hideIt (below2 HB.out hb3); clear hb3 hr3)
                    | (go_at_call 13; refine (HRE2.out _ _ R3.out).mono ?_; rintro e w4 ⟨rfl, hb4⟩; have R4 := hideIt (R3.out.below hb4); have B4 := hideIt (below2 B3.out hb4); clear hb4))
                  go_ret3
                  have hf := RlTo.good HE2.out HL3.out R4.out B4.out
                  rw [HPK.out] at hf
                  exact hf
                · have HL3 : Hid (ldM s = none) := hideIt (by rw [HLM2.out, if_neg h5])
                  have HE2 : Hid (ldE s = 6) := hideIt (by rw [HE.out, HL3.out]; rfl)
                  rw [decide_eq_false h5] at hse
                  have hse2 := hsn h5
                  clear hsn hsr HLM HSR HLM2 hrt hup hml hml2 h5
                  generalize bs (encL PK m) = Z at HRE2 hse hse2
                  go_wp2_with (first
                    | (go_at_call 9; refine (HRL.out _ _ HRO.out).mono ?_; rintro e w3 ⟨hb3, v3, he3, hr3⟩; obtain rfl := he3; have R3 := hideIt hr3; have B3 := hideIt (below2 HB.out hb3); clear hb3 hr3)
                    | (go_at_call 13; refine (HRE2.out _ _ R3.out).mono ?_; rintro e w4 ⟨rfl, hb4⟩; have B4 := hideIt (below2 B3.out hb4); clear hb4))
                  go_ret3
                  exact RlTo.bad (k := 6) HE2.out (by decide) B4.out
        · rw [if_pos (Or.inr h4)] at HE
          have z1 : ¬ (z : Int) = 0 := by omega
          have z2 : ((z : Int) != 0) = true := by simpa using z1
          have z3 : ((z : Int) == 0) = false := by simpa using z1
          generalize bs s = S at t1 t2 t3 t4 n1 n2 n3 n4 n5 n8 hsz
          clear HRL HRE HSR HLM hsl hspk hpz t4 hn hP hD hPl hsz h1 h2 h3 hz hk hr e2 hs r3 r4 r4n r4d
          go_enter Tryd.func17, Tryd.ntmps17
          go_wp2
          go_region_law (first | (go_simp; go_at_call 14; refine (HSU.out _).mono ?_; rintro e w1 ⟨rfl, hb1⟩; dsimp only; have B1 := hideIt (HBA.out _ hb1); clear hb1))
          go_wp2
          go_ret3
          exact RlTo.bad (k := 6) HE.out (by decide) B1.out
      · rw [if_pos (Or.inl h3)] at HE
        have l1 : ((bs (s.take 14)).toList == [112, 111, 108, 108, 97, 114, 100, 32, 105, 110, 100, 101, 120, 10]) = false := by
          rw [ByteArray.toList_eq, bs_list, beq_eq_false_iff_ne]; exact h3
        have l2 : ¬ (bs (s.take 14)).toList = [112, 111, 108, 108, 97, 114, 100, 32, 105, 110, 100, 101, 120, 10] := by
          rw [ByteArray.toList_eq, bs_list]; exact h3
        generalize bs (s.take 14) = LL at t3 l1 l2
        generalize bs s = S at t1 t2 t3 t4 n1 n2 n3 n4 n5 n8 hsz
        clear HRL HRE HSR HLM hsl hspk hpz t4 hn hP hD hPl hsz h1 h2 h3 hk hr e2 hs r0 r3 r4 r4n r4d
        go_enter Tryd.func17, Tryd.ntmps17
        go_wp2
        go_region_law (first | (go_simp; go_at_call 14; refine (HSU.out _).mono ?_; rintro e w1 ⟨rfl, hb1⟩; dsimp only; have B1 := hideIt (HBA.out _ hb1); clear hb1))
        go_wp2
        go_ret3
        exact RlTo.bad (k := 6) HE.out (by decide) B1.out
    · rw [if_pos h2] at HE
      rw [decide_eq_false h2] at hcm
      have hcm2 := bs_ne h2
      generalize bs D = DD at t2 hcm hcm2
      generalize bs (shaL P) = SS at HSU hcm hcm2
      generalize bs P = PP at t1 HSU
      generalize bs s = S at t1 t2 t3 t4 n1 n2 n3 n4 n5 n8 hsz
      clear HRL HRE HSR HLM hsl hspk hpz t3 t4 hn hP hD hPl hsz h1 h2 hk hr e2 hs r0 r3 r4 r4n r4d
      go_enter Tryd.func17, Tryd.ntmps17
      go_wp2
      go_region_law (first | (go_simp; go_at_call 14; refine (HSU.out _).mono ?_; rintro e w1 ⟨rfl, hb1⟩; dsimp only; have B1 := hideIt (HBA.out _ hb1); clear hb1))
      go_wp2
      go_ret3
      exact RlTo.bad (k := 80) HE.out (by decide) B1.out
end Go.Proofs.YtllpfpbpdgpnkaaDoor.Ix
