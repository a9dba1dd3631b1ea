/- IndexLoads: walked. -/
import Derived.Test.YtllpfpbpdgpnkaaDoorIxYn
namespace Go.Proofs.YtllpfpbpdgpnkaaDoor.Ix
open Cb Go.RowKit Go.Shelf
theorem ld_parts {s : List UInt8} {m : List Sp} (h0 : ldE s = 0) (hm : ldM s = some m) : (packR s).size = 32 ∧ Right m ∧ m.length ≤ 2048 ∧ encL (packR s) m = s := by
  obtain ⟨h1, h2⟩ := ldM_some hm
  obtain ⟨a, b, c⟩ := srt_right h1
  have hl : ¬ s.length < 1102 := fun h => by
    unfold ldE at h0
    rw [if_pos h] at h0
    cases h0
  have hk : ¬ 2048 < (s.length - 1102) / 36 := fun h => by
    unfold ldE at h0
    rw [if_neg hl] at h0
    split at h0
    · cases h0
    · split at h0
      · cases h0
      · omega
  refine ⟨by rw [packR, bs_size, List.length_take, List.length_drop]; omega, a, ?_, h2⟩
  rw [c, spotsOf, rdS_len]
  omega
set_option maxHeartbeats 1600000 in
set_option maxRecDepth 100000 in
theorem loads_law (s : ByteArray) (right : Bool) (w : World) (hK : Sa.KAt w) :
    Calls Tryd.prog 5 #[.string s, .bool right] w fun e w' => e = .returned (.bool true) ∧ Below w.heap.size w w' := by
  obtain ⟨T, hT⟩ : ∃ T, s.data.toList.take 4000 = T := ⟨_, rfl⟩
  have hTl : T.length ≤ 4000 := by rw [← hT]; simp; omega
  obtain ⟨U, hU⟩ : ∃ U, (if right = true then T ++ shaL T else T) = U := ⟨_, rfl⟩
  have hUl : U.length ≤ 4032 := by
    rw [← hU]
    split
    · rw [List.length_append, shaL_len]; omega
    · omega
  have HAW := hideIt awake_any
  have HKW := hideIt (fun w' (hb : Below w.heap.size w w') => Sa.K_below hb (Sa.K_pos hK) hK)
  have HSU := hideIt (fun w => refSum_any T w (by omega))
  have HLD := hideIt (fun w hk => load_any U w hk (by omega))
  have HRL := hideIt (fun w => refload_any U w (by omega))
  have hts := take_bs s.data.toList 4000
  rw [hT, bs_data] at hts
  have hsl : s.data.toList.length = s.size := size_list s
  have hTT : (bs T).size ≤ 4000 := by rw [bs_size]; exact hTl
  have hHH : (bs (shaL T)).size = 32 := by rw [bs_size, shaL_len]
  have hap := bs_append T (shaL T)
  have hcut : (¬ 4000 < s.size ∧ s = bs T) ∨ 4000 < s.size := by
    by_cases h : 4000 < s.size
    · exact .inr h
    · refine .inl ⟨h, ?_⟩
      rw [← hT, List.take_of_length_le (by rw [hsl]; omega), bs_data]
  by_cases h0 : ldE U = 0
  · have HLT : Hid (∀ (w : World) e w', LdTo w U e w' → Below w.heap.size w w' ∧ ∃ m g, ldM U = some m ∧ e = .returned (.tuple #[.pointer (some ⟨g, 0, none⟩), .int .i64 0]) ∧ IxAt w' g (packR U) m) := hideIt (fun w e w' hl => by
      obtain ⟨hb, ⟨_, m2, g, hm2, he, hi⟩ | ⟨hne, _⟩⟩ := hl
      · exact ⟨hb, m2, g, hm2, he, hi⟩
      · exact absurd h0 hne)
    have HRT : Hid (∀ (w : World) e w', RlTo w U e w' → Below w.heap.size w w' ∧ ∃ m v, ldM U = some m ∧ e = .returned (.tuple #[.string (packR U), v, .int .i64 0]) ∧ SRow w' v m) := hideIt (fun w e w' hl => by
      obtain ⟨hb, ⟨_, m2, g, hm2, he, hi⟩ | ⟨hne, _⟩⟩ := hl
      · exact ⟨hb, m2, g, hm2, he, hi⟩
      · exact absurd h0 hne)
    cases hm : ldM U with
    | none =>
      exfalso
      unfold ldE at h0
      rw [hm] at h0
      simp only [Option.isSome_none, Bool.false_eq_true, if_false] at h0
      split at h0
      · cases h0
      · split at h0
        · cases h0
        · split at h0
          · cases h0
          · split at h0 <;> cases h0
    | some m =>
      obtain ⟨hpz, hrt, hml, hen⟩ := ld_parts h0 hm
      have HPK := hideIt (fun g w h => pack_any g (packR U) m w h)
      have HAL := hideIt (fun g w h => all_any g (packR U) m w h (by omega))
      have HEN := hideIt (fun g w hk h => encode_any g (packR U) m w hk h hpz hrt hml)
      rw [hen] at HEN
      have HMM : Hid (∀ m2, ldM U = some m2 → m2 = m) := hideIt (fun m2 h2 => by rw [hm] at h2; cases h2; rfl)
      obtain ⟨n, hn⟩ : ∃ n, m.length = n := ⟨_, rfl⟩
      have HN := hideIt hn
      have hUU : bs U = if right = true then bs T ++ bs (shaL T) else bs T := by
        rw [← hU]
        cases right
        · rfl
        · simp only [if_true]; rw [hap]
      generalize packR U = PK at HPK HAL HEN HLT HRT
      generalize bs U = UU at HEN HLD HRL hUU
      generalize bs (shaL T) = HH at HSU hHH hUU
      generalize bs T = TT at HSU hTT hUU hts hcut
      have tt1 : (TT.size : Int) ≤ 4000 := by omega
      have hh1 : (HH.size : Int) = 32 := by omega
      clear hap hsl hT hU hUl hTl h0 hm hpz hrt hml hen hn hK
      rcases hcut with ⟨g, rfl⟩ | g
      · have g1 : ¬ (4000 : Int) < (s.size : Int) := by omega
        clear g hts
        cases right
        · simp only [Bool.false_eq_true, if_false] at hUU
          subst hUU
          have B1 : Hid (Below w.heap.size w w) := hideIt (Below.refl _ _)
          go_enter Tryd.func5, Tryd.ntmps5
          go_wp2_with (first
            | (go_at_call 15; refine (HLD.out _ (HKW.out _ B1.out)).mono ?_; rintro e w1 hl1; obtain ⟨hb1, m1, g1, hm1, he1, hi1⟩ := HLT.out _ _ _ hl1; obtain rfl := HMM.out m1 hm1; obtain rfl := he1; have I1 := hideIt hi1; have B1 := hideIt (below2 B1.out hb1); clear hb1 hi1 hl1 hm1)
            | (go_at_call 17; refine (HRL.out _).mono ?_; rintro e w2 hl2; obtain ⟨hb2, m2, v2, hm2, he2, hr2⟩ := HRT.out _ _ _ hl2; obtain rfl := HMM.out m2 hm2; obtain rfl := he2; have I1 := hideIt (I1.out.below hb2); obtain ⟨a2, c2, rfl, _, _, _⟩ := hr2; rw [HN.out]; have B1 := hideIt (below2 B1.out hb2); clear hb2 hl2 hm2)
            | (go_at_call 10; refine (HAW.out _).mono ?_; rintro e w3 ⟨rfl, hb3⟩; have I1 := hideIt (I1.out.below hb3); have B1 := hideIt (below2 B1.out hb3); clear hb3)
            | (go_at_call 18; refine (HPK.out _ _ I1.out).mono ?_; rintro e wx ⟨rfl, hwx⟩; obtain rfl := hwx.symm)
            | (go_at_call 11; refine (HAL.out _ _ I1.out).mono ?_; rintro e w5 ⟨v5, rfl, hr5, hb5⟩; obtain ⟨a5, c5, rfl, _, _, _⟩ := hr5; rw [HN.out]; have I1 := hideIt (I1.out.below hb5); have B1 := hideIt (below2 B1.out hb5); clear hb5)
            | (go_at_call 12; refine (HEN.out _ _ (HKW.out _ B1.out) I1.out).mono ?_; rintro e w6 ⟨rfl, hb6⟩; have B1 := hideIt (below2 B1.out hb6); clear hb6))
          go_ret
          exact ⟨rfl, B1.out⟩
        · simp only [if_true] at hUU
          subst hUU
          have B1 : Hid (Below w.heap.size w w) := hideIt (Below.refl _ _)
          go_enter Tryd.func5, Tryd.ntmps5
          go_wp2_with (first
            | (go_at_call 14; refine (HSU.out _).mono ?_; rintro e w0 ⟨rfl, hb0⟩; have B1 := hideIt hb0; clear hb0)
            | (go_at_call 15; refine (HLD.out _ (HKW.out _ B1.out)).mono ?_; rintro e w1 hl1; obtain ⟨hb1, m1, g1, hm1, he1, hi1⟩ := HLT.out _ _ _ hl1; obtain rfl := HMM.out m1 hm1; obtain rfl := he1; have I1 := hideIt hi1; have B1 := hideIt (below2 B1.out hb1); clear hb1 hi1 hl1 hm1)
            | (go_at_call 17; refine (HRL.out _).mono ?_; rintro e w2 hl2; obtain ⟨hb2, m2, v2, hm2, he2, hr2⟩ := HRT.out _ _ _ hl2; obtain rfl := HMM.out m2 hm2; obtain rfl := he2; have I1 := hideIt (I1.out.below hb2); obtain ⟨a2, c2, rfl, _, _, _⟩ := hr2; rw [HN.out]; have B1 := hideIt (below2 B1.out hb2); clear hb2 hl2 hm2)
            | (go_at_call 10; refine (HAW.out _).mono ?_; rintro e w3 ⟨rfl, hb3⟩; have I1 := hideIt (I1.out.below hb3); have B1 := hideIt (below2 B1.out hb3); clear hb3)
            | (go_at_call 18; refine (HPK.out _ _ I1.out).mono ?_; rintro e wx ⟨rfl, hwx⟩; obtain rfl := hwx.symm)
            | (go_at_call 11; refine (HAL.out _ _ I1.out).mono ?_; rintro e w5 ⟨v5, rfl, hr5, hb5⟩; obtain ⟨a5, c5, rfl, _, _, _⟩ := hr5; rw [HN.out]; have I1 := hideIt (I1.out.below hb5); have B1 := hideIt (below2 B1.out hb5); clear hb5)
            | (go_at_call 12; refine (HEN.out _ _ (HKW.out _ B1.out) I1.out).mono ?_; rintro e w6 ⟨rfl, hb6⟩; have B1 := hideIt (below2 B1.out hb6); clear hb6))
          go_ret
          exact ⟨rfl, B1.out⟩
      · have g1 : (4000 : Int) < (s.size : Int) := by omega
        clear g
        cases right
        · simp only [Bool.false_eq_true, if_false] at hUU
          subst hUU
          have B1 : Hid (Below w.heap.size w w) := hideIt (Below.refl _ _)
          go_enter Tryd.func5, Tryd.ntmps5
          go_wp2_with (first
            | (go_at_call 15; refine (HLD.out _ (HKW.out _ B1.out)).mono ?_; rintro e w1 hl1; obtain ⟨hb1, m1, g1, hm1, he1, hi1⟩ := HLT.out _ _ _ hl1; obtain rfl := HMM.out m1 hm1; obtain rfl := he1; have I1 := hideIt hi1; have B1 := hideIt (below2 B1.out hb1); clear hb1 hi1 hl1 hm1)
            | (go_at_call 17; refine (HRL.out _).mono ?_; rintro e w2 hl2; obtain ⟨hb2, m2, v2, hm2, he2, hr2⟩ := HRT.out _ _ _ hl2; obtain rfl := HMM.out m2 hm2; obtain rfl := he2; have I1 := hideIt (I1.out.below hb2); obtain ⟨a2, c2, rfl, _, _, _⟩ := hr2; rw [HN.out]; have B1 := hideIt (below2 B1.out hb2); clear hb2 hl2 hm2)
            | (go_at_call 10; refine (HAW.out _).mono ?_; rintro e w3 ⟨rfl, hb3⟩; have I1 := hideIt (I1.out.below hb3); have B1 := hideIt (below2 B1.out hb3); clear hb3)
            | (go_at_call 18; refine (HPK.out _ _ I1.out).mono ?_; rintro e wx ⟨rfl, hwx⟩; obtain rfl := hwx.symm)
            | (go_at_call 11; refine (HAL.out _ _ I1.out).mono ?_; rintro e w5 ⟨v5, rfl, hr5, hb5⟩; obtain ⟨a5, c5, rfl, _, _, _⟩ := hr5; rw [HN.out]; have I1 := hideIt (I1.out.below hb5); have B1 := hideIt (below2 B1.out hb5); clear hb5)
            | (go_at_call 12; refine (HEN.out _ _ (HKW.out _ B1.out) I1.out).mono ?_; rintro e w6 ⟨rfl, hb6⟩; have B1 := hideIt (below2 B1.out hb6); clear hb6))
          go_ret
          exact ⟨rfl, B1.out⟩
        · simp only [if_true] at hUU
          subst hUU
          have B1 : Hid (Below w.heap.size w w) := hideIt (Below.refl _ _)
          go_enter Tryd.func5, Tryd.ntmps5
          go_wp2_with (first
            | (go_at_call 14; refine (HSU.out _).mono ?_; rintro e w0 ⟨rfl, hb0⟩; have B1 := hideIt hb0; clear hb0)
            | (go_at_call 15; refine (HLD.out _ (HKW.out _ B1.out)).mono ?_; rintro e w1 hl1; obtain ⟨hb1, m1, g1, hm1, he1, hi1⟩ := HLT.out _ _ _ hl1; obtain rfl := HMM.out m1 hm1; obtain rfl := he1; have I1 := hideIt hi1; have B1 := hideIt (below2 B1.out hb1); clear hb1 hi1 hl1 hm1)
            | (go_at_call 17; refine (HRL.out _).mono ?_; rintro e w2 hl2; obtain ⟨hb2, m2, v2, hm2, he2, hr2⟩ := HRT.out _ _ _ hl2; obtain rfl := HMM.out m2 hm2; obtain rfl := he2; have I1 := hideIt (I1.out.below hb2); obtain ⟨a2, c2, rfl, _, _, _⟩ := hr2; rw [HN.out]; have B1 := hideIt (below2 B1.out hb2); clear hb2 hl2 hm2)
            | (go_at_call 10; refine (HAW.out _).mono ?_; rintro e w3 ⟨rfl, hb3⟩; have I1 := hideIt (I1.out.below hb3); have B1 := hideIt (below2 B1.out hb3); clear hb3)
            | (go_at_call 18; refine (HPK.out _ _ I1.out).mono ?_; rintro e wx ⟨rfl, hwx⟩; obtain rfl := hwx.symm)
            | (go_at_call 11; refine (HAL.out _ _ I1.out).mono ?_; rintro e w5 ⟨v5, rfl, hr5, hb5⟩; obtain ⟨a5, c5, rfl, _, _, _⟩ := hr5; rw [HN.out]; have I1 := hideIt (I1.out.below hb5); have B1 := hideIt (below2 B1.out hb5); clear hb5)
            | (go_at_call 12; refine (HEN.out _ _ (HKW.out _ B1.out) I1.out).mono ?_; rintro e w6 ⟨rfl, hb6⟩; have B1 := hideIt (below2 B1.out hb6); clear hb6))
          go_ret
          exact ⟨rfl, B1.out⟩
  · have HLT : Hid (∀ (w : World) e w', LdTo w U e w' → Below w.heap.size w w' ∧ e = .returned (.tuple #[.pointer none, .int .i64 (ldE U : Int)])) := hideIt (fun w e w' hl => by
      obtain ⟨hb, ⟨h, _⟩ | ⟨_, he⟩⟩ := hl
      · exact absurd h h0
      · exact ⟨hb, he⟩)
    have HRT : Hid (∀ (w : World) e w', RlTo w U e w' → Below w.heap.size w w' ∧ e = .returned (.tuple #[.string ⟨#[]⟩, .slice none 0 0, .int .i64 (ldE U : Int)])) := hideIt (fun w e w' hl => by
      obtain ⟨hb, ⟨h, _⟩ | ⟨_, he⟩⟩ := hl
      · exact absurd h h0
      · exact ⟨hb, he⟩)
    have hUU : bs U = if right = true then bs T ++ bs (shaL T) else bs T := by
      rw [← hU]
      cases right
      · rfl
      · simp only [if_true]; rw [hap]
    have k1 : ¬ (ldE U : Int) = 0 := by omega
    have k2 : ((ldE U : Int) != 0) = true := by simpa using k1
    have k3 : ((ldE U : Int) == 0) = false := by simpa using k1
    generalize ldE U = K at h0 HLT HRT k1 k2 k3
    generalize bs U = UU at HLD HRL hUU
    generalize bs (shaL T) = HH at HSU hHH hUU
    generalize bs T = TT at HSU hTT hUU hts hcut
    have tt1 : (TT.size : Int) ≤ 4000 := by omega
    have hh1 : (HH.size : Int) = 32 := by omega
    clear hap hsl hT hU hUl hTl hK
    rcases hcut with ⟨g, rfl⟩ | g
    · have g1 : ¬ (4000 : Int) < (s.size : Int) := by omega
      clear g hts
      cases right
      · simp only [Bool.false_eq_true, if_false] at hUU
        subst hUU
        have B1 : Hid (Below w.heap.size w w) := hideIt (Below.refl _ _)
        go_enter Tryd.func5, Tryd.ntmps5
        go_wp2_with (first
          | (go_at_call 15; refine (HLD.out _ (HKW.out _ B1.out)).mono ?_; rintro e w1 hl1; obtain ⟨hb1, he1⟩ := HLT.out _ _ _ hl1; obtain rfl := he1; have B1 := hideIt (below2 B1.out hb1); clear hb1 hl1)
          | (go_at_call 17; refine (HRL.out _).mono ?_; rintro e w2 hl2; obtain ⟨hb2, he2⟩ := HRT.out _ _ _ hl2; obtain rfl := he2; have B1 := hideIt (below2 B1.out hb2); clear hb2 hl2)
          | (go_at_call 10; refine (HAW.out _).mono ?_; rintro e w3 ⟨rfl, hb3⟩; have B1 := hideIt (below2 B1.out hb3); clear hb3))
        go_ret
        exact ⟨rfl, B1.out⟩
      · simp only [if_true] at hUU
        subst hUU
        have B1 : Hid (Below w.heap.size w w) := hideIt (Below.refl _ _)
        go_enter Tryd.func5, Tryd.ntmps5
        go_wp2_with (first
          | (go_at_call 14; refine (HSU.out _).mono ?_; rintro e w0 ⟨rfl, hb0⟩; have B1 := hideIt hb0; clear hb0)
          | (go_at_call 15; refine (HLD.out _ (HKW.out _ B1.out)).mono ?_; rintro e w1 hl1; obtain ⟨hb1, he1⟩ := HLT.out _ _ _ hl1; obtain rfl := he1; have B1 := hideIt (below2 B1.out hb1); clear hb1 hl1)
          | (go_at_call 17; refine (HRL.out _).mono ?_; rintro e w2 hl2; obtain ⟨hb2, he2⟩ := HRT.out _ _ _ hl2; obtain rfl := he2; have B1 := hideIt (below2 B1.out hb2); clear hb2 hl2)
          | (go_at_call 10; refine (HAW.out _).mono ?_; rintro e w3 ⟨rfl, hb3⟩; have B1 := hideIt (below2 B1.out hb3); clear hb3))
        go_ret
        exact ⟨rfl, B1.out⟩
    · have g1 : (4000 : Int) < (s.size : Int) := by omega
      clear g
      cases right
      · simp only [Bool.false_eq_true, if_false] at hUU
        subst hUU
        have B1 : Hid (Below w.heap.size w w) := hideIt (Below.refl _ _)
        go_enter Tryd.func5, Tryd.ntmps5
        go_wp2_with (first
          | (go_at_call 15; refine (HLD.out _ (HKW.out _ B1.out)).mono ?_; rintro e w1 hl1; obtain ⟨hb1, he1⟩ := HLT.out _ _ _ hl1; obtain rfl := he1; have B1 := hideIt (below2 B1.out hb1); clear hb1 hl1)
          | (go_at_call 17; refine (HRL.out _).mono ?_; rintro e w2 hl2; obtain ⟨hb2, he2⟩ := HRT.out _ _ _ hl2; obtain rfl := he2; have B1 := hideIt (below2 B1.out hb2); clear hb2 hl2)
          | (go_at_call 10; refine (HAW.out _).mono ?_; rintro e w3 ⟨rfl, hb3⟩; have B1 := hideIt (below2 B1.out hb3); clear hb3))
        go_ret
        exact ⟨rfl, B1.out⟩
      · simp only [if_true] at hUU
        subst hUU
        have B1 : Hid (Below w.heap.size w w) := hideIt (Below.refl _ _)
        go_enter Tryd.func5, Tryd.ntmps5
        go_wp2_with (first
          | (go_at_call 14; refine (HSU.out _).mono ?_; rintro e w0 ⟨rfl, hb0⟩; have B1 := hideIt hb0; clear hb0)
          | (go_at_call 15; refine (HLD.out _ (HKW.out _ B1.out)).mono ?_; rintro e w1 hl1; obtain ⟨hb1, he1⟩ := HLT.out _ _ _ hl1; obtain rfl := he1; have B1 := hideIt (below2 B1.out hb1); clear hb1 hl1)
          | (go_at_call 17; refine (HRL.out _).mono ?_; rintro e w2 hl2; obtain ⟨hb2, he2⟩ := HRT.out _ _ _ hl2; obtain rfl := he2; have B1 := hideIt (below2 B1.out hb2); clear hb2 hl2)
          | (go_at_call 10; refine (HAW.out _).mono ?_; rintro e w3 ⟨rfl, hb3⟩; have B1 := hideIt (below2 B1.out hb3); clear hb3))
        go_ret
        exact ⟨rfl, B1.out⟩
end Go.Proofs.YtllpfpbpdgpnkaaDoor.Ix
