/- The document's copy: which entries may be a tree; the word of a mode; a tree's bytes; where a byte first stands: walked. -/
import Derived.Test.YtmjffngpaoaflaaGreatDoorTf
import Derived.Test.YtmjffngpaoaflaaGreatDoorLbAll
namespace Go.Proofs.YtmjffngpaoaflaaGreatDoor
open Go.RowKit Go.Shelf
theorem bl_irrefl : ∀ x : List UInt8, Op.bytesLess x x = false
  | [] => rfl
  | a :: x => by simp [Op.bytesLess, bl_irrefl x]
theorem bl_trans : ∀ x y z : List UInt8, Op.bytesLess x y = true → Op.bytesLess y z = true → Op.bytesLess x z = true
  | _, _, [], _, h => by simp [Op.bytesLess] at h
  | _, [], _ :: _, h, _ => by simp [Op.bytesLess] at h
  | [], _ :: _, _ :: _, _, _ => rfl
  | a :: x, b :: y, c :: z, h1, h2 => by
    simp only [Op.bytesLess, Bool.or_eq_true, decide_eq_true_eq, Bool.and_eq_true, beq_iff_eq] at h1 h2 ⊢
    rcases h1 with h1 | ⟨rfl, h1⟩
    · rcases h2 with h2 | ⟨rfl, h2⟩
      · exact .inl (UInt8.lt_trans h1 h2)
      · exact .inl h1
    · rcases h2 with h2 | ⟨rfl, h2⟩
      · exact .inl h2
      · exact .inr ⟨rfl, bl_trans x y z h1 h2⟩
theorem bl_total : ∀ x y : List UInt8, Op.bytesLess x y = false → Op.bytesLess y x = false → x = y
  | [], [], _, _ => rfl
  | [], _ :: _, h, _ => by simp [Op.bytesLess] at h
  | _ :: _, [], _, h => by simp [Op.bytesLess] at h
  | a :: x, b :: y, h1, h2 => by
    simp only [Op.bytesLess, Bool.or_eq_false_iff, decide_eq_false_iff_not, Bool.and_eq_false_iff, beq_eq_false_iff_ne, ne_eq] at h1 h2
    have hab : a = b := by
      apply UInt8.toNat_inj.1
      have h3 := h1.1
      have h4 := h2.1
      rw [UInt8.lt_iff_toNat_lt] at h3 h4
      omega
    subst hab
    rw [bl_total x y (by rcases h1.2 with h | h; exact absurd rfl h; exact h) (by rcases h2.2 with h | h; exact absurd rfl h; exact h)]
theorem leq_eq (a b : List UInt8) : (Op.bytesLess a b || a == b) = !Op.bytesLess b a := by
  cases h1 : Op.bytesLess b a with
  | true =>
    have h2 : Op.bytesLess a b = false := by
      cases h : Op.bytesLess a b with
      | false => rfl
      | true => have := bl_trans _ _ _ h h1; rw [bl_irrefl] at this; cases this
    have h3 : (a == b) = false := by
      cases h : a == b with
      | false => rfl
      | true => have := beq_iff_eq.1 h; subst this; rw [bl_irrefl] at h1; cases h1
    rw [h2, h3]; rfl
  | false =>
    cases h : Op.bytesLess a b with
    | true => rfl
    | false => have := bl_total _ _ h h1; subst this; simp
set_option maxHeartbeats 1600000 in
set_option maxRecDepth 100000 in
theorem refcheck_any (v : Value) (l : List En) (w : World) (h : ERow w v l) (hs : ∀ x ∈ l, x.nm.size ≤ maxLen) : Calls Tryz.prog 64 #[v] w fun e w' => e = .returned (.int .i64 (chk l)) ∧ Below w.heap.size w w' := by
  obtain ⟨a, c, rfl, hlc, hcm, hrow⟩ := h
  have HR := hideIt hrow
  have HSZ := hideIt hs
  have HCK : Hid (chk l = if 256 < l.length then 3 else chkF none l) := rfl
  obtain ⟨n, hn⟩ : ∃ n, l.length = n := ⟨_, rfl⟩
  rw [hn] at HCK hlc ⊢
  have HN := hideIt hn
  clear hrow hs
  by_cases hbig : 256 < n
  · have d1 : decide ((256 : Int) < (n : Int)) = true := decide_eq_true (by omega)
    have i1 : (256 : Int) < (n : Int) := by omega
    go_enter Tryz.func64, Tryz.ntmps64
    go_wp2
    go_ret
    exact ⟨by rw [HCK.out, if_pos hbig]; rfl, Below.refl _ _⟩
  · have d1 : decide ((256 : Int) < (n : Int)) = false := decide_eq_false (by omega)
    have i1 : ¬ (256 : Int) < (n : Int) := by omega
    have HCF : Hid (chk l = chkF none l) := hideIt (by rw [HCK.out, if_neg hbig])
    clear HCK
    have HE := hideIt (refname_any)
    go_enter Tryz.func64, Tryz.ntmps64
    go_wp2
    go_loopw [3] (fun t wr => ∃ i : Nat, i ≤ n ∧ t = .int .i64 i ∧ chkF (before l i) (l.drop i) = chk l ∧ Below w.heap.size w wr) (fun t _ => n - (intOf t).toNat)
    case atStart => exact ⟨0, by omega, rfl, by rw [HCF.out]; rfl, Below.refl _ _⟩
    case round =>
      obtain ⟨i, hi, rfl, hck, hb⟩ := hrel
      by_cases hlt : i < n
      · have hid : decide ((i : Int) < (n : Int)) = true := decide_eq_true (by omega)
        have i2 : (i : Int) < (n : Int) := by omega
        obtain ⟨b, o, rfl, hcells⟩ := HR.out (by rw [HN.out]; omega)
        obtain ⟨x, hxi⟩ : ∃ x, l[i]? = some x := ⟨l[i]'(by rw [HN.out]; exact hlt), by simp⟩
        have hcr := hcells.below hb
        obtain ⟨c0, c1, c2⟩ := hcr.2 i x hxi
        have HB := hideIt hb
        have HCA := hideIt hcr
        have HST := hideIt (chk_step l i x hxi)
        have HE2 := hideIt (HE.out x.nm wr (HSZ.out x (List.mem_of_getElem? hxi)))
        have HC1 : Hid (chk1 x = if Lb.nameB x.nm = false then 50 else if ¬ (1 ≤ x.md ∧ x.md ≤ 3) then 60 else if x.ids.size ≠ 32 then 6 else 0) := rfl
        have HCK2 := hideIt hck
        clear hcells hcr hb hck
        obtain ⟨nb, hnb⟩ : ∃ nb, Lb.nameB x.nm = nb := ⟨_, rfl⟩
        rw [hnb] at HE2 HC1
        obtain ⟨md, hmd⟩ : ∃ md, x.md = md := ⟨_, rfl⟩
        obtain ⟨k, hk⟩ : ∃ k : Int, (x.ids.size : Int) = k := ⟨_, rfl⟩
        rw [hmd] at HC1 c1
        have HK := hideIt hk
        cases nb with
        | false =>
          have HZ : Hid (chk l = 50) := hideIt (by rw [← HCK2.out, HST.out, HC1.out]; simp)
          go_wp2_with (first | (go_at_call 67; refine HE2.out.mono ?_; rintro e w1 ⟨rfl, hw1⟩; obtain rfl := hw1.symm))
          go_ret
          exact ⟨by rw [HZ.out]; rfl, HB.out⟩
        | true =>
          by_cases hm1 : md < 1
          · have e1 : decide (md < 1) = true := decide_eq_true hm1
            have HZ : Hid (chk l = 60) := hideIt (by rw [← HCK2.out, HST.out, HC1.out]; simp; omega)
            go_wp2_with (first | (go_at_call 67; refine HE2.out.mono ?_; rintro e w1 ⟨rfl, hw1⟩; obtain rfl := hw1.symm))
            go_ret
            exact ⟨by rw [HZ.out]; rfl, HB.out⟩
          · have e1 : decide (md < 1) = false := decide_eq_false hm1
            have g1 : 1 ≤ md := by omega
            by_cases hm2 : 3 < md
            · have e2 : decide ((3 : Int) < md) = true := decide_eq_true hm2
              have HZ : Hid (chk l = 60) := hideIt (by rw [← HCK2.out, HST.out, HC1.out]; simp; omega)
              go_wp2_with (first | (go_at_call 67; refine HE2.out.mono ?_; rintro e w1 ⟨rfl, hw1⟩; obtain rfl := hw1.symm))
              go_ret
              exact ⟨by rw [HZ.out]; rfl, HB.out⟩
            · have e2 : decide ((3 : Int) < md) = false := decide_eq_false hm2
              have g2 : md ≤ 3 := by omega
              by_cases hk32 : k = 32
              · have HZ1 : Hid (chk1 x = 0) := hideIt (by
                  rw [HC1.out]
                  have := HK.out
                  simp
                  omega)
                have HST1 : Hid ((if stuck (before l i) x = true then 61 else chkF (before l (i + 1)) (l.drop (i + 1))) = chk l) := hideIt (by
                  rw [← HCK2.out, HST.out, HZ1.out]
                  simp)
                have k1 : (k == 32) = true := by simpa using hk32
                clear HZ1 HST HC1 HCK2
                subst hk32
                by_cases h0 : i = 0
                · have n0 : ¬ (0 : Int) < (i : Int) := by omega
                  have n1 : decide ((0 : Int) < (i : Int)) = false := decide_eq_false n0
                  have n2 : ¬ 0 < i := by omega
                  have HST2 : Hid (chkF (before l (i + 1)) (l.drop (i + 1)) = chk l) := hideIt (by
                    rw [← HST1.out, if_neg]
                    subst h0
                    simp [stuck, before])
                  clear h0
                  go_wp2_with (first | (go_at_call 67; refine HE2.out.mono ?_; rintro e w1 ⟨rfl, hw1⟩; obtain rfl := hw1.symm))
                  go_quiet (fail)
                  go_wp2
                  go_roundw
                  case rel => exact ⟨i + 1, by omega, by go_num, HST2.out, below2 HB.out (below_drewN _ _)⟩
                  case measure => simp [intOf]; omega
                · obtain ⟨j, hj⟩ : ∃ j, i = j + 1 := ⟨i - 1, by omega⟩
                  have n0 : (0 : Int) < (i : Int) := by omega
                  have n1 : decide ((0 : Int) < (i : Int)) = true := decide_eq_true n0
                  have n2 : 0 < i := by omega
                  have j1 : (i : Int) - 1 = (j : Int) := by omega
                  have j2 : (j : Int) < (n : Int) := by omega
                  have j3 : j < n := by omega
                  obtain ⟨y, hyj⟩ : ∃ y, l[j]? = some y := ⟨l[j]'(by rw [HN.out]; exact j3), by simp⟩
                  obtain ⟨y0, _, _⟩ := HCA.out.2 j y hyj
                  obtain ⟨ls, hls⟩ : ∃ ls, Op.bytesLess y.nm.toList x.nm.toList = ls := ⟨_, rfl⟩
                  have hle : (Op.bytesLess x.nm.toList y.nm.toList || x.nm.toList == y.nm.toList) = !ls := by rw [leq_eq, hls]
                  have HST2 : Hid ((if ls = false then 61 else chkF (before l (i + 1)) (l.drop (i + 1))) = chk l) := hideIt (by
                    rw [← HST1.out, stuck_at hj hyj hls]
                    cases ls <;> simp)
                  obtain ⟨z1, hz1⟩ : ∃ z1, Op.bytesLess x.nm.toList y.nm.toList = z1 := ⟨_, rfl⟩
                  obtain ⟨z2, hz2⟩ : ∃ z2, (x.nm.toList == y.nm.toList) = z2 := ⟨_, rfl⟩
                  rw [hz1, hz2] at hle
                  have HLE := hideIt hle
                  clear h0 hj hyj hls hle
                  by_cases hzz : z1 = false ∧ z2 = false
                  · obtain ⟨rfl, rfl⟩ := hzz
                    have HST3 : Hid (chkF (before l (i + 1)) (l.drop (i + 1)) = chk l) := hideIt (by
                      rw [← HST2.out, if_neg]
                      have := HLE.out
                      cases ls <;> simp at this <;> simp)
                    clear HLE HST2
                    go_wp2_with (first | (go_at_call 67; refine HE2.out.mono ?_; rintro e w1 ⟨rfl, hw1⟩; obtain rfl := hw1.symm))
                    go_quiet (fail)
                    go_wp2
                    go_roundw
                    case rel => exact ⟨i + 1, by omega, by go_num, HST3.out, below2 HB.out (below_drewN _ _)⟩
                    case measure => simp [intOf]; omega
                  · have HST3 : Hid (chk l = 61) := hideIt (by
                      rw [← HST2.out, if_pos]
                      have := HLE.out
                      cases ls <;> cases z1 <;> cases z2 <;> simp_all)
                    clear HST2
                    cases z1 <;> cases z2
                    · exact absurd ⟨rfl, rfl⟩ hzz
                    all_goals clear hzz HLE
                    all_goals go_wp2_with (first | (go_at_call 67; refine HE2.out.mono ?_; rintro e w1 ⟨rfl, hw1⟩; obtain rfl := hw1.symm))
                    all_goals go_quiet (fail)
                    all_goals go_wp2
                    all_goals go_ret
                    all_goals exact ⟨by rw [HST3.out]; rfl, below2 HB.out (below_drewN _ _)⟩
              · have k1 : (k == 32) = false := by simpa using hk32
                have HZ : Hid (chk l = 6) := hideIt (by
                  rw [← HCK2.out, HST.out, HC1.out]
                  have := HK.out
                  have h32 : ¬ x.ids.size = 32 := by omega
                  simp [h32]
                  omega)
                go_wp2_with (first | (go_at_call 67; refine HE2.out.mono ?_; rintro e w1 ⟨rfl, hw1⟩; obtain rfl := hw1.symm))
                go_ret
                exact ⟨by rw [HZ.out]; rfl, HB.out⟩
      · have hid : decide ((i : Int) < (n : Int)) = false := decide_eq_false (by omega)
        obtain rfl : i = n := by omega
        have HB := hideIt hb
        have HCK2 := hideIt hck
        clear hb hck
        go_wp2
        go_ret
        refine ⟨?_, HB.out⟩
        rw [← HCK2.out, ← HN.out, chk_end]
        rfl
end Go.Proofs.YtmjffngpaoaflaaGreatDoor
