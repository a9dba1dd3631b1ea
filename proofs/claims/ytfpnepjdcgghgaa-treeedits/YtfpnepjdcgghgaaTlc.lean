/- The law TreeChecks, walked. -/
import Derived.Test.YtfpnepjdcgghgaaTlm
namespace Go.Proofs.Ytfpnepjdcgghgaa
open Go.RowKit Go.Shelf
def RowSame (w : World) (l : List En) (e : Ending) (w' : World) : Prop := ∃ v, e = .returned v ∧ ERow w v l ∧ w' = w
set_option maxHeartbeats 800000 in
set_option maxRecDepth 100000 in
theorem cut_any (v : Value) (l : List En) (w : World) (h : ERow w v l) : Calls Try.prog 7 #[v] w fun e w' => RowSame w (l.take 258) e w' := by
  have HT : Hid (∀ e w', RowSame w (l.take 258) e w' ↔ ∃ v, e = .returned v ∧ ERow w v (l.take 258) ∧ w' = w) := hideIt (fun _ _ => Iff.rfl)
  have HR := hideIt h
  obtain ⟨a, c, rfl, hlc, ⟨hcm, hnone⟩, hrow⟩ := h
  have HRW := hideIt hrow
  obtain ⟨n, hnn⟩ : ∃ n, l.length = n := ⟨_, rfl⟩
  rw [hnn] at hlc ⊢
  have HN := hideIt hnn
  clear hrow hnn
  by_cases hbig : 258 < n
  · have d1 : (258 : Int) < (n : Int) := by omega
    have d2 : decide ((258 : Int) < (n : Int)) = true := decide_eq_true d1
    have c1 : (258 : Int) ≤ (c : Int) := by omega
    have c2 : 258 ≤ c := by omega
    obtain ⟨b, o, rfl, hcells⟩ := HRW.out (by rw [HN.out]; omega)
    have HC := hideIt hcells
    clear hcells hnone
    go_enter Try.func7, Try.ntmps7
    go_wp2
    go_ret
    refine (HT.out _ _).2 ⟨_, rfl, ?_, rfl⟩
    have hl : (l.take 258).length = 258 := by rw [List.length_take, HN.out]; omega
    refine ⟨some ⟨b, o, none⟩, c, by rw [hl]; rfl, by rw [hl]; exact c2, ⟨hcm, fun h => by cases h⟩, fun _ => ⟨b, o, rfl, ?_⟩⟩
    have := HC.out.sub 0 258
    simpa using this
  · have d1 : ¬ (258 : Int) < (n : Int) := by omega
    have d2 : decide ((258 : Int) < (n : Int)) = false := decide_eq_false d1
    clear hnone
    go_enter Try.func7, Try.ntmps7
    go_wp2
    go_ret
    refine (HT.out _ _).2 ⟨_, rfl, ?_, rfl⟩
    rw [List.take_of_length_le (by rw [HN.out]; omega)]
    have := HR.out
    rw [HN.out] at this
    exact this
set_option maxHeartbeats 3200000 in
set_option maxRecDepth 100000 in
theorem checks_law (v : Value) (l0 : List En) (w : World) (h : ERow w v l0) (hs : ∀ x ∈ l0, x.nm.size ≤ maxLen) (hm : MaxAt w) : Calls Try.prog 3 #[v] w fun e w' => e = .returned (.bool true) ∧ Below w.heap.size w w' := by
  have HCU := hideIt (cut_any v l0 w h)
  obtain ⟨l, hl⟩ : ∃ l, l0.take 258 = l := ⟨_, rfl⟩
  rw [hl] at HCU
  have hsz : ∀ x ∈ l, x.nm.size ≤ maxLen := fun x hx => hs x (by rw [← hl] at hx; exact List.mem_of_mem_take hx)
  have hll : l.length ≤ 258 := by rw [← hl, List.length_take]; omega
  clear h hs hl
  have HM := hideIt hm
  have HCK := hideIt (fun v w h => check_any v l w h)
  have HEN := hideIt (fun v w h => encode_any v l w h)
  have HRF := hideIt (fun v w h => conv_any v l w h (by omega))
  have HRC := hideIt (fun v w h => refcheck_any v l w h hsz)
  have HAW := hideIt (awake_any)
  obtain ⟨z, hz⟩ : ∃ z, chk l = z := ⟨_, rfl⟩
  obtain ⟨n, hnn⟩ : ∃ n, l.length = n := ⟨_, rfl⟩
  have HN := hideIt hnn
  have HZ := hideIt hz
  rw [hz] at HCK HRC
  have HEN2 : Hid (∀ v w, ERow w v l → Calls Try.prog 9 #[v] w fun e w' => e = .returned (.tuple #[.string (if z = 0 then bs (encL l) else ⟨#[]⟩), .int .i64 z]) ∧ Below w.heap.size w w') := hideIt (fun v w h => by
    have := HEN.out v w h
    rw [encS, hz] at this
    exact this)
  clear HEN hz hnn hm hsz
  by_cases h0 : z = 0
  · subst h0
    have hck := chk_wf l HZ.out
    have hlen := encL_len l hck.2
    have HEN3 : Hid (∀ v w, ERow w v l → Calls Try.prog 9 #[v] w fun e w' => e = .returned (.tuple #[.string (bs (encL l)), .int .i64 0]) ∧ Below w.heap.size w w') := hideIt (fun v w h => by
      have := HEN2.out v w h
      rw [if_pos rfl] at this
      exact this)
    have HDE := hideIt (fun w h => decode_any (encL l) (by omega) w h)
    have hdec : dec (encL l) = (0, l) := by
      rw [dec_mk l (fun x hx => (hck.2 x hx).1), if_neg (by omega), fin, HZ.out]
      rfl
    have HDE2 : Hid (∀ w, MaxAt w → Calls Try.prog 13 #[.string (bs (encL l))] w fun e w' => ∃ v, e = .returned (.tuple #[v, .int .i64 0]) ∧ ERow w' v l ∧ Below w.heap.size w w') := hideIt (fun w h => by
      have := HDE.out w h
      unfold DecTo at this
      rw [hdec] at this
      exact this)
    have HPU := hideIt (fun v w h => refput_any v l w h (by omega) hck.2)
    have nI : (n : Int) ≤ 258 := by have := HN.out; omega
    obtain ⟨S, hS⟩ : ∃ S, bs (encL l) = S := ⟨_, rfl⟩
    rw [hS] at HEN3 HDE2 HPU
    clear HEN2 HDE hdec hlen hck hS
    go_enter Try.func3, Try.ntmps3
    go_wp2_with (first
      | (go_at_call 7; refine HCU.out.mono ?_; rintro e w0 ⟨v0, rfl, hr, hw0⟩; obtain rfl := hw0.symm; obtain ⟨a0, c0, rfl⟩ := hr.sliceN HN.out; have HB := hideIt (Below.refl w.heap.size w))
      | (go_at_call 8; refine (HCK.out _ _ hr).mono ?_; rintro e w1 ⟨rfl, hb1⟩; have HB1 := hideIt hb1; have hr1 := hr.below hb1)
      | (go_at_call 9; refine (HEN3.out _ _ hr1).mono ?_; rintro e w2 ⟨rfl, hb2⟩; have HB2 := hideIt (below2 HB1.out hb2); have hr2 := hr1.below hb2)
      | (go_at_call 11; refine (HRF.out _ _ hr2).mono ?_; rintro e w3 ⟨v3, rfl, hr3, hb3⟩; have HB3 := hideIt (below2 HB2.out hb3); have hq3 := hr2.below hb3)
      | (go_at_call 10; refine (HRC.out _ _ hr3).mono ?_; rintro e w4 ⟨rfl, hb4⟩; have HB4 := hideIt (below2 HB3.out hb4); have hq4 := hq3.below hb4)
      | (go_at_call 12; refine (HAW.out _ (HM.out.below HB4.out)).mono ?_; rintro e w5 ⟨rfl, hb5⟩; have HB5 := hideIt (below2 HB4.out hb5); have hq5 := hq4.below hb5)
      | (go_at_call 13; refine (HDE2.out _ (HM.out.below HB5.out)).mono ?_; rintro e w6 ⟨v6, rfl, hr6, hb6⟩; obtain ⟨a6, c6, rfl⟩ := hr6.sliceN HN.out; have HB2 := hideIt (below2 HB5.out hb6); have hr2 := hq5.below hb6; have HR6 := hideIt hr6; clear hr6)
      | (go_at_call 14; refine (HPU.out _ _ hr3).mono ?_; rintro e w7 ⟨rfl, hb7⟩; have HB7 := hideIt (below2 HB3.out hb7); have hq7 := hq3.below hb7; have hs7 := (HR6.out.below hb3).below hb7))
    have HA1 := hideIt hs7
    have HA2 := hideIt hq7
    clear hs7 hq7
    go_loopw [10] (fun t wr => ∃ i : Nat, i ≤ n ∧ t = .int .i64 i ∧ Below w7.heap.size w7 wr) (fun t _ => n - (intOf t).toNat)
    case atStart => exact ⟨0, by omega, rfl, Below.refl _ _⟩
    case round =>
      obtain ⟨i, hi, rfl, hb⟩ := hrel
      have HBW := hideIt hb
      by_cases hlt : i < n
      · have i1 : (i : Int) < (n : Int) := by omega
        have i2 : decide ((i : Int) < (n : Int)) = true := decide_eq_true i1
        obtain ⟨x, hxi⟩ : ∃ x, l[i]? = some x := ⟨l[i]'(by rw [HN.out]; exact hlt), by simp⟩
        obtain ⟨b1, o1, rfl, x0, x1, x2⟩ := (HA1.out.below hb).cellsAt hxi
        obtain ⟨b2, o2, rfl, y0, y1, y2⟩ := (HA2.out.below hb).cellsAt hxi
        clear hxi hb
        go_wp2
        go_quiet (fail)
        go_wp2
        go_roundw
        case rel => exact ⟨i + 1, by omega, by go_num, below2 HBW.out (below_drewN _ _)⟩
        case measure => simp [intOf]; omega
      · obtain rfl : i = n := by omega
        have i2 : decide ((i : Int) < (i : Int)) = false := decide_eq_false (by omega)
        clear hb
        go_wp2
        go_ret
        exact ⟨rfl, below2 HB7.out HBW.out⟩
  · have z1 : (z == 0) = false := by simpa using h0
    have HEN3 : Hid (∀ v w, ERow w v l → Calls Try.prog 9 #[v] w fun e w' => e = .returned (.tuple #[.string ⟨#[]⟩, .int .i64 z]) ∧ Below w.heap.size w w') := hideIt (fun v w h => by
      have := HEN2.out v w h
      rw [if_neg h0] at this
      exact this)
    clear HEN2
    go_enter Try.func3, Try.ntmps3
    go_wp2_with (first
      | (go_at_call 7; refine HCU.out.mono ?_; rintro e w0 ⟨v0, rfl, hr, hw0⟩; obtain rfl := hw0.symm)
      | (go_at_call 8; refine (HCK.out _ _ hr).mono ?_; rintro e w1 ⟨rfl, hb1⟩; have HB1 := hideIt hb1; have hr1 := hr.below hb1)
      | (go_at_call 9; refine (HEN3.out _ _ hr1).mono ?_; rintro e w2 ⟨rfl, hb2⟩; have HB2 := hideIt (below2 HB1.out hb2); have hr2 := hr1.below hb2)
      | (go_at_call 11; refine (HRF.out _ _ hr2).mono ?_; rintro e w3 ⟨v3, rfl, hr3, hb3⟩; have HB3 := hideIt (below2 HB2.out hb3))
      | (go_at_call 10; refine (HRC.out _ _ hr3).mono ?_; rintro e w4 ⟨rfl, hb4⟩; have HB4 := hideIt (below2 HB3.out hb4))
      | (go_at_call 12; refine (HAW.out _ (HM.out.below HB4.out)).mono ?_; rintro e w5 ⟨rfl, hb5⟩; have HB5 := hideIt (below2 HB4.out hb5)))
    go_ret
    exact ⟨rfl, HB5.out⟩
end Go.Proofs.Ytfpnepjdcgghgaa
