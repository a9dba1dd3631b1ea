/- Indexes: the index of bytes: walked. -/
import Derived.Test.YtllpfpbpdgpnkaaDoorIxYk
import Derived.Test.YtllpfpbpdgpnkaaDoorIxYj
namespace Go.Proofs.YtllpfpbpdgpnkaaDoor.Ix
open Cb Go.RowKit Go.Shelf
/-- What bytes are read as. -/
def LdTo (w : World) (s : List UInt8) (e : Ending) (w' : World) : Prop := Below w.heap.size w w' ∧ ((ldE s = 0 ∧ ∃ m g, ldM s = some m ∧ e = .returned (.tuple #[.pointer (some ⟨g, 0, none⟩), .int .i64 0]) ∧ IxAt w' g (packR s) m) ∨ (¬ ldE s = 0 ∧ e = .returned (.tuple #[.pointer none, .int .i64 (ldE s : Int)])))
theorem LdTo.bad {w w' : World} {s : List UInt8} {k : Nat} (h : ldE s = k) (hk : ¬ k = 0) (hb : Below w.heap.size w w') : LdTo w s (.returned (.tuple #[.pointer none, .int .i64 (k : Int)])) w' := by
  subst h
  exact ⟨hb, .inr ⟨hk, rfl⟩⟩
theorem LdTo.good {w w' : World} {s : List UInt8} {m : List Sp} {g : Nat} (h : ldE s = 0) (hm : ldM s = some m) (hi : IxAt w' g (packR s) m) (hb : Below w.heap.size w w') : LdTo w s (.returned (.tuple #[.pointer (some ⟨g, 0, none⟩), .int .i64 0])) w' := ⟨hb, .inl ⟨h, m, g, hm, rfl, hi⟩⟩
theorem sumOf_any (M : List UInt8) (w : World) (hK : Sa.KAt w) (h : M.length < 100000000) : Calls Tryd.prog 27 #[.string (bs M)] w fun e w' => e = .returned (.string (bs (shaL M))) ∧ Below w.heap.size w w' := by
  have := Sa.of_any (bs M) w hK (by rw [bs_size]; exact h)
  rw [bs_list, show Sa.Sha.sha M = bs (shaL M) from (bs_data _).symm] at this
  exact this
theorem bs_eq (a b : List UInt8) : ((bs a).toList == (bs b).toList) = decide (a = b) := by
  rw [ByteArray.toList_eq, ByteArray.toList_eq, bs_list, bs_list]
  by_cases h : a = b
  · subst h; simp
  · rw [decide_eq_false h, beq_eq_false_iff_ne]; exact h
theorem bs_ne {a b : List UInt8} (h : ¬ a = b) : ¬ (bs a).toList = (bs b).toList := fun e => by
  rw [ByteArray.toList_eq, ByteArray.toList_eq, bs_list, bs_list] at e
  exact h e
set_option maxHeartbeats 1600000 in
set_option maxRecDepth 100000 in
theorem load_any (s : List UInt8) (w : World) (hK : Sa.KAt w) (hs : s.length ≤ 74000) : Calls Tryd.prog 15 #[.string (bs s)] w fun e w' => LdTo w s e w' := by
  have HE : Hid (ldE s = if s.length < 1102 then 4 else if ¬ shaL (s.take (s.length - 32)) = s.drop (s.length - 32) then 80
    else if ¬ s.take 14 = lineL ∨ ¬ (s.length - 1102) % 36 = 0 then 6 else if 2048 < (s.length - 1102) / 36 then 3
    else if (ldM s).isSome = true then 0 else 6) := hideIt rfl
  have hsz : (bs s).size = s.length := bs_size s
  by_cases h1 : s.length < 1102
  · have HE2 : Hid (ldE s = 4) := hideIt (by rw [HE.out, if_pos h1])
    have g1 : ((bs s).size : Int) < 1102 := by omega
    generalize bs s = S at g1
    clear HE hsz h1 hs
    go_enter Tryd.func15, Tryd.ntmps15
    go_wp2
    go_ret2
    exact LdTo.bad (k := 4) HE2.out (by decide) (Below.refl _ _)
  · rw [if_neg h1] at HE
    obtain ⟨n, hn⟩ : ∃ n, s.length - 32 = n := ⟨_, rfl⟩
    obtain ⟨P, hP⟩ : ∃ P, s.take n = P := ⟨_, rfl⟩
    obtain ⟨D, hD⟩ : ∃ D, s.drop n = D := ⟨_, rfl⟩
    have hPl : P.length = n := by rw [← hP, List.length_take]; omega
    have t1 := take_bs s n
    have t2 := drop_bs s n
    rw [hP] at t1
    rw [hD] at t2
    rw [hn, hP, hD] at HE
    have HSU := hideIt (fun w' (hb : Below w.heap.size w w') => sumOf_any P w' (Sa.K_below hb (Sa.K_pos hK) hK) (by omega))
    have HB0 : Hid (Below w.heap.size w w.drew) := hideIt (Below.refl _ w).drew
    have HBD : Hid (∀ a b, Below w.heap.size w a → Below a.drew.heap.size a.drew b → Below w.heap.size w b) := hideIt (fun a b h1 h2 => below2 h1.drew h2)
    have HBA : Hid (∀ w1, Below w.drew.heap.size w.drew w1 → Below w.heap.size w w1) := hideIt (fun w1 h => below2 HB0.out h)
    have HPR := hideIt (fun w => hasPrefix_any (bs P) ⟨#[112, 111, 108, 108, 97, 114, 100, 32, 105, 110, 100, 101, 120, 10]⟩ w)
    rw [pre_line] at HPR
    have ht14 : P.take 14 = s.take 14 := by rw [← hP, List.take_take, Nat.min_eq_left (by omega)]
    rw [ht14] at HPR
    have t3 := drop_bs P 1070
    have t4 := mid_bs P 14 46
    have hpk : bs ((P.drop 14).take (46 - 14)) = packR s := by
      rw [packR, ← hP, List.drop_take, List.take_take, Nat.min_eq_left (by omega)]
    rw [hpk] at t4
    obtain ⟨k, hk⟩ : ∃ k, (s.length - 1102) / 36 = k := ⟨_, rfl⟩
    have hpz : (packR s).size = 32 := by rw [packR, bs_size, List.length_take, List.length_drop]; omega
    have hdl : (P.drop 1070).length = n - 1070 := by rw [List.length_drop, hPl]
    have hrd : rdS (P.drop 1070) ((P.drop 1070).length / 36) = spotsOf s := by
      rw [hdl, spotsOf, ← hP, List.drop_take, show (s.length - 1102) = n - 1070 by omega]
      exact rdS_take _ _ _ (by omega)
    have HRS := hideIt (fun w => readSpots_any (P.drop 1070) w (by omega))
    rw [hrd] at HRS
    have hsl : (spotsOf s).length ≤ 2048 := by rw [spotsOf, rdS_len]; omega
    have HNW := hideIt (fun v w h => new_any (packR s) v (spotsOf s) w h hsl)
    have hix : ixO (packR s) (spotsOf s) = srtF [] (spotsOf s) := by rw [ixO, if_pos hpz]
    rw [hix] at HNW
    have HLM : Hid (ldM s = match srtF [] (spotsOf s) with
      | none => none
      | some m => if encL (packR s) m = s then some m else none) := hideIt rfl
    have HEB := hideIt (fun (m : List Sp) (h : shaL P = D) => enc_body (s := s) (pack := packR s) (m := m) (by rw [hn, hP, hD]; exact h))
    rw [hn, hP] at HEB
    have HSR := hideIt (fun m (h : srtF [] (spotsOf s) = some m) => srt_right h)
    have HBO := hideIt (fun g m w h h1 h2 => body_any g (packR s) m w h hpz h1 h2)
    have hbz := bs_size P
    have hbz2 := bs_size (P.drop 1070)
    rw [hPl] at hbz
    rw [hdl] at hbz2
    have n1 : ¬ ((bs s).size : Int) < 1102 := by omega
    have n2 : ((bs s).size : Int) - 32 = (n : Int) := by omega
    have n3 : (n : Int) ≤ ((bs s).size : Int) := by omega
    have n4 : ((bs s).size : Int) ≤ 74000 := by omega
    have n5 : ((bs P).size : Int) = (n : Int) := by omega
    have n6 : (1070 : Int) ≤ (n : Int) := by omega
    have n7 : (46 : Int) ≤ (n : Int) := by omega
    obtain ⟨r, hr⟩ : ∃ r, n - 1070 = r := ⟨_, rfl⟩
    rw [hr] at hbz2
    have r1 : ((bs (P.drop 1070)).size : Int) = (r : Int) := by omega
    have r2 : (r : Int) % 36 = ((r % 36 : Nat) : Int) := by omega
    have r3 : (r : Int) / 36 = (k : Int) := by omega
    have r4 : ¬ (2048 : Int) < (k : Int) := by omega
    have r4n : ¬ 2048 < k := by omega
    have r4d : decide ((2048 : Int) < (k : Int)) = false := decide_eq_false r4
    rw [show s.length - 1102 = r by omega] at HE
    have hcm := bs_eq (shaL P) D
    have HBE := hideIt (fun X => bs_eq X P)
    have HBN := hideIt (fun X => bs_ne (a := X) (b := P))
    have HPE : Hid (packR s = packR s) := hideIt rfl
    by_cases h2 : shaL P = D
    · rw [if_neg (by simpa using h2)] at HE
      rw [decide_eq_true h2] at hcm
      have hcm2 : (bs (shaL P)).toList = (bs D).toList := by rw [h2]
      have HEB2 := hideIt (fun m => HEB.out m h2)
      by_cases h3 : s.take 14 = lineL
      · rw [decide_eq_true h3] at HPR
        obtain ⟨z, hz⟩ : ∃ z, r % 36 = z := ⟨_, rfl⟩
        rw [hz] at r2 HE
        by_cases h4 : z = 0
        · subst h4
          rw [if_neg (by simp [h3]), if_neg (by omega)] at HE
          have r5 : (r : Int) % 36 = 0 := by omega
          cases hsr : srtF [] (spotsOf s) with
          | none =>
            rw [hsr] at HNW HLM
            have HE2 : Hid (ldE s = 6) := hideIt (by rw [HE.out, HLM.out]; rfl)
            generalize bs D = DD at t2 hcm hcm2
            generalize bs (shaL P) = SS at HSU hcm hcm2
            generalize bs (P.drop 1070) = RR at t3 HRS r1
            generalize bs P = PP at t1 HSU n5 HPR t3 t4
            generalize bs s = S at t1 t2 n1 n2 n3 n4
            obtain ⟨PK, hPK⟩ : ∃ PK, packR s = PK := ⟨_, rfl⟩
            have HPK := hideIt hPK
            rw [hPK] at t4 HNW HBO
            clear hPK
            clear HLM HSR HEB2 HE h2 h3 hz r2 hsr HBO hn hP hD hPl hsz hdl hrd hsl ht14 hr hk hbz2 hbz hs h1 HPE hK hpk hpz hix HBE HBN HEB
            go_enter Tryd.func15, Tryd.ntmps15
            go_wp2
            go_region_law (first | (go_simp; go_at_call 27; refine (HSU.out _ HB0.out).mono ?_; rintro e w1 ⟨rfl, hb1⟩; dsimp only; have B1 := hideIt (HBA.out _ hb1); clear hb1))
            go_wp2_with (first | (go_at_call 31; refine (HPR.out _).mono ?_; rintro e wx ⟨rfl, hwx⟩; obtain rfl := hwx.symm))
            go_region_law (first
              | (go_simp; go_at_call 32; refine (HRS.out _).mono ?_; rintro e w3 ⟨v3, rfl, hr3, hb3⟩; dsimp only; have R3 := hideIt hr3; have B3 := hideIt (HBD.out _ _ B1.out hb3); clear hr3 hb3)
              | (go_simp; go_at_call 8; refine (HNW.out _ _ R3.out).mono ?_; rintro e w4 ⟨rfl, hb4⟩; dsimp only; have B4 := hideIt (below2 B3.out hb4); clear hb4))
            all_goals go_wp2
            all_goals go_ret2
            all_goals exact LdTo.bad (k := 6) HE2.out (by decide) B4.out
          | some m =>
            rw [hsr] at HNW HLM
            obtain ⟨hrt, hup, hml⟩ := HSR.out m hsr
            have HLM2 : Hid (ldM s = if encL (packR s) m = s then some m else none) := HLM
            have HBM := hideIt (fun g w h => HBO.out g m w h hrt (by omega))
            by_cases h5 : bodyL (packR s) m = P
            · have HL3 : Hid (ldM s = some m) := hideIt (by rw [HLM2.out, if_pos ((HEB2.out m).2 h5)])
              have HE2 : Hid (ldE s = 0) := hideIt (by rw [HE.out, HL3.out]; rfl)
              have hcb := bs_eq (bodyL (packR s) m) P
              rw [decide_eq_true h5] at hcb
              have hcb2 : (bs (bodyL (packR s) m)).toList = (bs P).toList := by rw [h5]
              generalize bs (bodyL (packR s) m) = BB at HBM hcb hcb2
              generalize bs D = DD at t2 hcm hcm2
              generalize bs (shaL P) = SS at HSU hcm hcm2
              generalize bs (P.drop 1070) = RR at t3 HRS r1
              generalize bs P = PP at t1 HSU n5 HPR t3 t4 hcb hcb2
              generalize bs s = S at t1 t2 n1 n2 n3 n4
              obtain ⟨PK, hPK⟩ : ∃ PK, packR s = PK := ⟨_, rfl⟩
              have HPK := hideIt hPK
              rw [hPK] at t4 HNW HBO HBM
              clear hPK
              clear HLM HSR HEB2 HE h2 h3 hz r2 hsr HBO HLM2 hrt hup hml h5 hn hP hD hPl hsz hdl hrd hsl ht14 hr hk hbz2 hbz hs h1 HPE hK hpk hpz hix HBE HBN HEB
              go_enter Tryd.func15, Tryd.ntmps15
              go_wp2
              go_region_law (first | (go_simp; go_at_call 27; refine (HSU.out _ HB0.out).mono ?_; rintro e w1 ⟨rfl, hb1⟩; dsimp only; have B1 := hideIt (HBA.out _ hb1); clear hb1))
              go_wp2_with (first | (go_at_call 31; refine (HPR.out _).mono ?_; rintro e wx ⟨rfl, hwx⟩; obtain rfl := hwx.symm))
              go_region_law (first
                | (go_simp; go_at_call 32; refine (HRS.out _).mono ?_; rintro e w3 ⟨v3, rfl, hr3, hb3⟩; dsimp only; have R3 := hideIt hr3; have B3 := hideIt (HBD.out _ _ B1.out hb3); clear hr3 hb3)
                | (go_simp; go_at_call 8; refine (HNW.out _ _ R3.out).mono ?_; rintro e w4 ⟨g, rfl, hi4, hb4⟩; dsimp only; have I4 := hideIt hi4; have B4 := hideIt (below2 B3.out hb4); clear hb4 hi4))
              all_goals go_wp2_with (first | (go_at_call 26; refine (HBM.out _ _ I4.out).mono ?_; rintro e w5 ⟨rfl, hb5⟩; have I5 := hideIt (I4.out.below hb5); have B5 := hideIt (below2 B4.out hb5); clear hb5))
              all_goals go_ret2
              all_goals exact LdTo.good HE2.out HL3.out (by rw [HPK.out]; exact I5.out) B5.out
            · have HL3 : Hid (ldM s = none) := hideIt (by rw [HLM2.out, if_neg (fun h => h5 ((HEB2.out m).1 h))])
              have HE2 : Hid (ldE s = 6) := hideIt (by rw [HE.out, HL3.out]; rfl)
              have hcb := bs_eq (bodyL (packR s) m) P
              rw [decide_eq_false h5] at hcb
              have hcb2 := bs_ne h5
              generalize bs (bodyL (packR s) m) = BB at HBM hcb hcb2
              generalize bs D = DD at t2 hcm hcm2
              generalize bs (shaL P) = SS at HSU hcm hcm2
              generalize bs (P.drop 1070) = RR at t3 HRS r1
              generalize bs P = PP at t1 HSU n5 HPR t3 t4 hcb hcb2
              generalize bs s = S at t1 t2 n1 n2 n3 n4
              obtain ⟨PK, hPK⟩ : ∃ PK, packR s = PK := ⟨_, rfl⟩
              have HPK := hideIt hPK
              rw [hPK] at t4 HNW HBO HBM
              clear hPK
              clear HLM HSR HEB2 HE h2 h3 hz r2 hsr HBO HLM2 hrt hup hml h5 hn hP hD hPl hsz hdl hrd hsl ht14 hr hk hbz2 hbz hs h1 HPE hK hpk hpz hix HBE HBN HEB
              go_enter Tryd.func15, Tryd.ntmps15
              go_wp2
              go_region_law (first | (go_simp; go_at_call 27; refine (HSU.out _ HB0.out).mono ?_; rintro e w1 ⟨rfl, hb1⟩; dsimp only; have B1 := hideIt (HBA.out _ hb1); clear hb1))
              go_wp2_with (first | (go_at_call 31; refine (HPR.out _).mono ?_; rintro e wx ⟨rfl, hwx⟩; obtain rfl := hwx.symm))
              go_region_law (first
                | (go_simp; go_at_call 32; refine (HRS.out _).mono ?_; rintro e w3 ⟨v3, rfl, hr3, hb3⟩; dsimp only; have R3 := hideIt hr3; have B3 := hideIt (HBD.out _ _ B1.out hb3); clear hr3 hb3)
                | (go_simp; go_at_call 8; refine (HNW.out _ _ R3.out).mono ?_; rintro e w4 ⟨g, rfl, hi4, hb4⟩; dsimp only; have I4 := hideIt hi4; have B4 := hideIt (below2 B3.out hb4); clear hb4 hi4))
              all_goals go_wp2_with (first | (go_at_call 26; refine (HBM.out _ _ I4.out).mono ?_; rintro e w5 ⟨rfl, hb5⟩; have B5 := hideIt (below2 B4.out hb5); clear hb5))
              all_goals go_ret2
              all_goals exact LdTo.bad (k := 6) HE2.out (by decide) B5.out
        · rw [if_pos (Or.inr h4)] at HE
          have z1 : ¬ (z : Int) = 0 := by omega
          have z2 : ((z : Int) != 0) = true := by simpa using z1
          have z3 : ((z : Int) == 0) = false := by simpa using z1
          generalize bs D = DD at t2 hcm hcm2
          generalize bs (shaL P) = SS at HSU hcm hcm2
          generalize bs (P.drop 1070) = RR at t3 HRS r1
          generalize bs P = PP at t1 HSU n5 HPR t3 t4
          generalize bs s = S at t1 t2 n1 n2 n3 n4
          obtain ⟨PK, hPK⟩ : ∃ PK, packR s = PK := ⟨_, rfl⟩
          have HPK := hideIt hPK
          rw [hPK] at t4 HNW HBO
          clear hPK
          clear HLM HSR HEB2 h2 h3 hz HBO HNW HRS r3 r4 r4n r4d hn hP hD hPl hsz hdl hrd hsl ht14 hr hk hbz2 hbz hs h1 HPE hK hpk hpz hix HBE HBN HEB
          go_enter Tryd.func15, Tryd.ntmps15
          go_wp2
          go_region_law (first | (go_simp; go_at_call 27; refine (HSU.out _ HB0.out).mono ?_; rintro e w1 ⟨rfl, hb1⟩; dsimp only; have B1 := hideIt (HBA.out _ hb1); clear hb1))
          go_wp2_with (first | (go_at_call 31; refine (HPR.out _).mono ?_; rintro e wx ⟨rfl, hwx⟩; obtain rfl := hwx.symm))
          go_ret2
          exact LdTo.bad (k := 6) HE.out (by decide) B1.out
      · rw [if_pos (Or.inl h3)] at HE
        rw [decide_eq_false h3] at HPR
        generalize bs D = DD at t2 hcm hcm2
        generalize bs (shaL P) = SS at HSU hcm hcm2
        generalize bs (P.drop 1070) = RR at t3 HRS r1
        generalize bs P = PP at t1 HSU n5 HPR t3 t4
        generalize bs s = S at t1 t2 n1 n2 n3 n4
        obtain ⟨PK, hPK⟩ : ∃ PK, packR s = PK := ⟨_, rfl⟩
        have HPK := hideIt hPK
        rw [hPK] at t4 HNW HBO
        clear hPK
        clear HLM HSR HEB2 h2 h3 HBO HNW HRS r2 r3 r4 r4n r4d hn hP hD hPl hsz hdl hrd hsl ht14 hr hk hbz2 hbz hs h1 HPE hK hpk hpz hix HBE HBN HEB
        go_enter Tryd.func15, Tryd.ntmps15
        go_wp2
        go_region_law (first | (go_simp; go_at_call 27; refine (HSU.out _ HB0.out).mono ?_; rintro e w1 ⟨rfl, hb1⟩; dsimp only; have B1 := hideIt (HBA.out _ hb1); clear hb1))
        go_wp2_with (first | (go_at_call 31; refine (HPR.out _).mono ?_; rintro e wx ⟨rfl, hwx⟩; obtain rfl := hwx.symm))
        go_ret2
        exact LdTo.bad (k := 6) HE.out (by decide) B1.out
    · rw [if_pos h2] at HE
      rw [decide_eq_false h2] at hcm
      have hcm2 := bs_ne h2
      generalize bs D = DD at t2 hcm hcm2
      generalize bs (shaL P) = SS at HSU hcm hcm2
      generalize bs P = PP at t1 HSU n5 hbz
      generalize bs s = S at t1 t2 n1 n2 n3 n4 hsz
      clear HPR t3 t4 HRS HNW HLM HSR HBO r1 r2 r3 r4 r4n r4d h2 n6 n7 hn hP hD hPl hsz hdl hrd hsl ht14 hr hk hbz2 hbz hs h1 HPE hK hpk hpz hix HBE HBN HEB
      go_enter Tryd.func15, Tryd.ntmps15
      go_wp2
      go_region_law (first | (go_simp; go_at_call 27; refine (HSU.out _ HB0.out).mono ?_; rintro e w1 ⟨rfl, hb1⟩; dsimp only; have B1 := hideIt (HBA.out _ hb1); clear hb1))
      go_wp2
      go_ret2
      exact LdTo.bad (k := 80) HE.out (by decide) B1.out
end Go.Proofs.YtllpfpbpdgpnkaaDoor.Ix
