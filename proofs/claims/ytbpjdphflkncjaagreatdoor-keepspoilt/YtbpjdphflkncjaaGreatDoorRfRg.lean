/- Refs: Check, in the document. -/
import Derived.Test.YtbpjdphflkncjaaGreatDoorRfRl
namespace Go.Proofs.YtbpjdphflkncjaaGreatDoor.Rf
open Cb Go.RowKit
theorem refK_ok (s : ByteArray) : (refK s == 0) = !okN s := by
  have h := (refK_says s).1
  have h0 : 0 ≤ refK s := by unfold refK; split <;> (try split) <;> (try split) <;> omega
  rw [okN, h]
  by_cases e : refK s = 0
  · rw [e]; rfl
  · rw [decide_eq_true (by omega)]
    simp [e]
theorem refK_head (s : ByteArray) : (refK s == 1) = headB s := (refK_says s).2.symm
theorem low_says (q x : ByteArray) : (Op.bytesLess x.toList q.toList || x.toList == q.toList) = !decide (lt q x) := by
  rw [bl_lt, tl_eq]
  rcases lt_tri q x with h | h | h
  · rw [decide_eq_true h, decide_eq_false (fun k => lt_irrefl _ (lt_trans h k)), decide_eq_false (fun e => lt_irrefl q (by rw [e] at h; exact absurd h (lt_irrefl _)))]
    rfl
  · subst h
    simp [lt_irrefl]
  · rw [decide_eq_true h, decide_eq_false (fun k => lt_irrefl _ (lt_trans h k))]
    rfl
set_option maxHeartbeats 3200000 in
set_option maxRecDepth 100000 in
theorem refcheck_any (hd : ByteArray) (v : Value) (l : List Rf) (w : World) (h : RRow w v l) (hl : l.length ≤ 100000) (hz : hd.size ≤ 9223372036854775807) (hzs : ∀ (i : Nat) (x : Rf), l[i]? = some x → x.nm.size ≤ 9223372036854775807) :
    Calls Tryz.prog 12 #[.agg #[.string hd, v]] w fun e w' => e = .returned (.int .i64 (chkR hd l)) ∧ Below w.heap.size w w' := by
  obtain ⟨W, hW⟩ : ∃ W, w.alloc (.cells #[.string hd, v] 30) = W := ⟨_, rfl⟩
  have hb : Below w.heap.size w W := by rw [← hW]; exact (Below.refl _ w).alloc (Nat.le_refl _) _
  have hsz : W.heap.size = w.heap.size + 1 := by rw [← hW]; simp
  have hcv : W.cell? ⟨w.heap.size, 1, none⟩ = some v := cellAt (by rw [← hW]; exact alloc_at rfl) rfl
  have HF : Hid (∀ w', Below W.heap.size W w' → w'.cell? ⟨w.heap.size, 1, none⟩ = some v) := hideIt (fun w' hb' => by rw [hb'.cell (p := ⟨w.heap.size, 1, none⟩) (by show w.heap.size < _; omega)]; exact hcv)
  have HB := hideIt hb
  have HW := hideIt hW
  obtain ⟨n, hn⟩ : ∃ n, l.length = n := ⟨_, rfl⟩
  have HN := hideIt hn
  have nI : (n : Int) ≤ 100000 := by omega
  have HR : Hid (∀ i x, l[i]? = some x → ∃ b o c, v = .slice (some ⟨b, o, none⟩) n c ∧ ∀ w', Below W.heap.size W w' → w'.cell? ⟨b, o + i * 2, none⟩ = some (.string x.nm) ∧ w'.cell? ⟨b, o + i * 2 + 1, none⟩ = some (.string x.id)) := hideIt (fun i x hi => by
    have hil := (List.getElem?_eq_some_iff.1 hi).1
    obtain ⟨b, o, c, e, _, _, h3⟩ := h.cells (by omega)
    rw [hn] at e
    exact ⟨b, o, c, e, fun w' hb' => h3 i x hi w' (below_step hb (Nat.le_refl _) hb')⟩)
  have HZS := hideIt hzs
  have HH := hideIt (fun w => refrefX_any hd w hz)
  obtain ⟨p, hp⟩ : ∃ p, chkR hd l = p := ⟨_, rfl⟩
  have HP : Hid (p = if 256 < n then 3 else if headB hd = true then chkL none l else 50) := hideIt (by rw [← hp, chkR, hn])
  have hkh := refK_head hd
  rw [hp]
  obtain ⟨h0, a, c, hv, h1, h2, h3⟩ := h
  subst hv
  rw [hn] at HR h1 hcv HF HW ⊢
  clear h0 h3 hp hn hl hb hW hcv hzs
  by_cases h256 : 256 < n
  · have d1 : decide ((256 : Int) < (n : Int)) = true := decide_eq_true (by omega)
    have HZ : Hid (p = 3) := hideIt (by rw [HP.out, if_pos h256])
    clear hkh
    go_enter Tryz.func12, Tryz.ntmps12
    go_wp2
    go_ret
    exact ⟨by rw [HZ.out]; rfl, by rw [HW.out]; exact HB.out⟩
  · have d1 : decide ((256 : Int) < (n : Int)) = false := decide_eq_false (by omega)
    have hp2 := HP.out
    rw [if_neg h256] at hp2
    generalize headB hd = H at hp2 hkh
    generalize refK hd = K at hkh HH
    cases H
    · have HZ : Hid (p = 50) := hideIt (by rw [hp2]; rfl)
      clear hp2
      go_enter Tryz.func12, Tryz.ntmps12
      go_wp2_with (first | (go_at_call 31; rw [HW.out]; refine (HH.out _).mono ?_; rintro e w1 ⟨rfl, hb1⟩))
      go_ret
      exact ⟨by rw [HZ.out]; rfl, below_step HB.out (Nat.le_refl _) hb1⟩
    · have HQ0 : Hid (p = chkL (prevN l 0) (l.drop 0)) := hideIt (by rw [hp2]; rfl)
      obtain rfl : K = 1 := by simpa using hkh
      clear hp2 hkh
      go_enter Tryz.func12, Tryz.ntmps12
      go_wp2_with (first | (go_at_call 31; rw [HW.out]; refine (HH.out _).mono ?_; rintro e w1 ⟨rfl, hb1⟩; have hcv := HF.out _ hb1))
      go_loopw [3] (fun s3 wr => ∃ i : Nat, i ≤ n ∧ s3 = .int .i64 (i : Int) ∧ Below W.heap.size W wr ∧ p = chkL (prevN l i) (l.drop i)) (fun s3 _ => n - (intOf s3).toNat)
      case atStart => exact ⟨0, by omega, rfl, hb1, HQ0.out⟩
      case round =>
        obtain ⟨i, hi, rfl, hbr, hpi⟩ := hrel
        have HBR := hideIt hbr
        have hcv2 := HF.out _ hbr
        clear hb1
        by_cases hlt : i < n
        · have i1 : (i : Int) < (n : Int) := by omega
          have i2 : decide ((i : Int) < (n : Int)) = true := decide_eq_true i1
          obtain ⟨x, hxi⟩ : ∃ x, l[i]? = some x := ⟨l[i]'(by rw [HN.out]; exact hlt), by simp⟩
          obtain ⟨b, o, c', e, hcc⟩ := HR.out i x hxi
          cases e
          obtain ⟨c0, c1⟩ := hcc wr hbr
          have HL := hideIt (fun w => refrefX_any x.nm w (HZS.out i x hxi))
          have hp3 := hpi
          rw [chk_at hxi] at hp3
          obtain ⟨f, hf⟩ : ∃ f, okN x.nm = f := ⟨_, rfl⟩
          have hko := refK_ok x.nm
          rw [hf] at hko
          generalize refK x.nm = K2 at hko HL
          obtain ⟨z, hzz⟩ : ∃ z, x.id.size = z := ⟨_, rfl⟩
          have hz2 : (x.id.size : Int) = (z : Int) := by rw [hzz]
          have HY : Hid (∀ w', Below wr.heap.size wr w' → (w'.cell? ⟨b, o + i * 2, none⟩ = some (.string x.nm) ∧ w'.cell? ⟨b, o + i * 2 + 1, none⟩ = some (.string x.id)) ∧ Below W.heap.size W w' ∧ w'.cell? ⟨w.heap.size, 1, none⟩ = some (.slice (some ⟨b, o, none⟩) n c)) := hideIt (fun w' hb' => ⟨hcc w' (below_step HBR.out (Nat.le_refl _) hb'), below_step HBR.out (Nat.le_refl _) hb', HF.out _ (below_step HBR.out (Nat.le_refl _) hb')⟩)
          clear hcc hbr hpi
          cases f
          · have HZ : Hid (p = 50) := hideIt (by rw [hp3, step_name hf]; rfl)
            clear hp3 hf hxi hzz
            go_wp2_with (first | (go_at_call 31; refine (HL.out _).mono ?_; rintro e w2 ⟨rfl, hb2⟩; obtain ⟨⟨q0, q1⟩, q2, q3⟩ := HY.out _ hb2))
            go_ret
            exact ⟨by rw [HZ.out]; rfl, below_step HB.out (Nat.le_refl _) q2⟩
          · by_cases h32 : z = 32
            · subst h32
              have hg : decide (x.id.size = 32) = true := decide_eq_true hzz
              by_cases hi0 : i = 0
              · have j1 : decide ((0 : Int) < (i : Int)) = false := decide_eq_false (by omega)
                have j0 : decide (0 < i) = false := decide_eq_false (by omega)
                have HZ : Hid (p = chkL (prevN l (i + 1)) (l.drop (i + 1))) := hideIt (by rw [hp3, if_pos (by rw [hi0]; exact step_first hf hg)])
                clear hp3 hf hg hxi hi0 hzz
                go_wp2_with (first | (go_at_call 31; refine (HL.out _).mono ?_; rintro e w2 ⟨rfl, hb2⟩; obtain ⟨⟨q0, q1⟩, q2, q3⟩ := HY.out _ hb2; clear hb2))
                go_quiet (fail)
                go_wp2
                go_roundw
                case rel => exact ⟨i + 1, by omega, by go_num, below_step q2 (Nat.le_refl _) (below_drewN _ _), HZ.out⟩
                case measure => simp [intOf]; omega
              · obtain ⟨k, hk⟩ : ∃ k, i = k + 1 := ⟨i - 1, by omega⟩
                have j1 : decide ((0 : Int) < (i : Int)) = true := decide_eq_true (by omega)
                have j0 : decide (0 < i) = true := decide_eq_true (by omega)
                have j2 : (i : Int) - 1 = (k : Int) := by omega
                have j3 : (0 : Int) ≤ (k : Int) := by omega
                have j5 : IntKind.i64.wrap (k : Int) = (k : Int) := by rw [IntKind.wrap_i64]; omega
                have j4 : (k : Int) < (n : Int) := by omega
                obtain ⟨y, hy⟩ : ∃ y, l[k]? = some y := ⟨l[k]'(by rw [HN.out]; omega), by simp⟩
                have HCY : Hid (∀ w', Below W.heap.size W w' → w'.cell? ⟨b, o + k * 2, none⟩ = some (.string y.nm)) := hideIt (fun w' hb' => by
                  obtain ⟨b', o', c2, e, hcy⟩ := HR.out k y hy
                  cases e
                  exact (hcy w' hb').1)
                have hbl := low_says y.nm x.nm
                obtain ⟨t, ht⟩ : ∃ t, decide (lt y.nm x.nm) = t := ⟨_, rfl⟩
                rw [ht] at hbl
                have hpr : prevN l i = some y.nm := by rw [hk]; exact prev_at hy
                rw [hpr] at hp3
                cases t
                · have HZ : Hid (p = 61) := hideIt (by rw [hp3, step_low hf hg ht]; rfl)
                  clear hp3 hf hg hxi hy hpr ht hk hzz
                  go_wp2_with (first | (go_at_call 31; refine (HL.out _).mono ?_; rintro e w2 ⟨rfl, hb2⟩; obtain ⟨⟨q0, q1⟩, q2, q3⟩ := HY.out _ hb2; have q4 := HCY.out _ q2; clear hb2))
                  go_quiet (fail)
                  go_wp2
                  go_ret
                  exact ⟨by rw [HZ.out]; rfl, below_step HB.out (Nat.le_refl _) (below_step q2 (Nat.le_refl _) (below_drewN _ _))⟩
                · have HZ : Hid (p = chkL (prevN l (i + 1)) (l.drop (i + 1))) := hideIt (by rw [hp3, if_pos (step_rise hf hg ht)])
                  clear hp3 hf hg hxi hy hpr ht hk hzz
                  go_wp2_with (first | (go_at_call 31; refine (HL.out _).mono ?_; rintro e w2 ⟨rfl, hb2⟩; obtain ⟨⟨q0, q1⟩, q2, q3⟩ := HY.out _ hb2; have q4 := HCY.out _ q2; clear hb2))
                  go_quiet (fail)
                  go_wp2
                  go_roundw
                  case rel => exact ⟨i + 1, by omega, by go_num, below_step q2 (Nat.le_refl _) (below_drewN _ _), HZ.out⟩
                  case measure => simp [intOf]; omega
            · have HZ : Hid (p = 6) := hideIt (by rw [hp3, step_id hf (decide_eq_false (by omega))]; rfl)
              have n32 : ¬ (z : Int) = 32 := by omega
              have n33 : ((z : Int) == 32) = false := beq_eq_false_iff_ne.2 n32
              clear hp3 hf hxi hzz h32
              go_wp2_with (first | (go_at_call 31; refine (HL.out _).mono ?_; rintro e w2 ⟨rfl, hb2⟩; obtain ⟨⟨q0, q1⟩, q2, q3⟩ := HY.out _ hb2))
              go_ret
              exact ⟨by rw [HZ.out]; rfl, below_step HB.out (Nat.le_refl _) q2⟩
        · have i2 : decide ((i : Int) < (n : Int)) = false := decide_eq_false (by omega)
          obtain rfl : i = n := by omega
          have HZ : Hid (p = 0) := hideIt (by
            rw [hpi, List.drop_of_length_le (by rw [HN.out]; omega), chkL])
          clear hpi
          go_wp2
          go_ret
          exact ⟨by rw [HZ.out]; rfl, below_step HB.out (Nat.le_refl _) HBR.out⟩
end Go.Proofs.YtbpjdphflkncjaaGreatDoor.Rf
