/- The document's copy: the tree of bytes, walked. -/
import Derived.Test.YtmjffngpaoaflaaGreatDoorTv
namespace Go.Proofs.YtmjffngpaoaflaaGreatDoor
open Go.RowKit Go.Shelf
theorem pfx (h r wl : List UInt8) (hq : wl.length ≤ h.length) : ((h ++ 0 :: r).take wl.length == wl) = wl.isPrefixOf h := by
  rw [List.take_append_of_le_length hq]
  cases hp : wl.isPrefixOf h with
  | true =>
    have := pref_some _ _ hp
    rw [this]
    simp
  | false =>
    cases hb : (h.take wl.length == wl) with
    | false => rfl
    | true =>
      have := beq_iff_eq.1 hb
      have h2 : wl.isPrefixOf h = true := List.isPrefixOf_iff_prefix.2 ⟨h.drop wl.length, by conv => lhs; rw [← this]
                                                                                             rw [this]; conv => rhs; rw [← List.take_append_drop wl.length h, this]⟩
      rw [hp] at h2
      cases h2
theorem pfx_no (h wl : List UInt8) (hq : ¬ wl.length ≤ h.length) : wl.isPrefixOf h = false := by
  cases hp : wl.isPrefixOf h with
  | false => rfl
  | true =>
    obtain ⟨t, rfl⟩ := List.isPrefixOf_iff_prefix.1 hp
    simp at hq
theorem mid_bs (h r : List UInt8) (q : Nat) : (bs (h ++ r)).extract q h.length = bs (h.drop q) := by
  apply bytes_ext
  rw [bs_list, ByteArray.data_extract]
  simp only [bs, Array.toList_extract, List.extract_eq_take_drop]
  by_cases hq : q ≤ h.length
  · rw [List.drop_append_of_le_length hq, List.take_append_of_le_length (by simp), List.take_of_length_le (by simp)]
  · simp [show h.length - q = 0 by omega]
    omega
theorem ext_bs (l : List UInt8) (a b : Nat) : (bs l).extract a b = bs ((l.drop a).take (b - a)) := by
  apply bytes_ext
  rw [bs_list, ByteArray.data_extract]
  simp [bs, List.extract_eq_take_drop]
theorem id_bs (h r : List UInt8) : (bs (h ++ 0 :: r)).extract (h.length + 1) (h.length + 33) = bs (r.take 32) := by
  rw [ext_bs]
  congr 1
  rw [show h.length + 33 - (h.length + 1) = 32 by omega]
  congr 1
  simp [List.drop_append]
theorem tail_bs (h r : List UInt8) (n : Nat) (hn : n = (h ++ 0 :: r).length) : (bs (h ++ 0 :: r)).extract (h.length + 33) n = bs (r.drop 32) := by
  rw [ext_bs]
  congr 1
  have e : (h ++ 0 :: r).drop (h.length + 33) = r.drop 32 := by simp [List.drop_append]
  rw [e, List.take_of_length_le]
  rw [hn]
  simp
  omega
theorem word_size (m : Int) : (word m).length ≤ 4 := by
  unfold word
  repeat' split
  all_goals simp
theorem step_append_own {P : Program} {ops : Array Oper} {o : Oper} {a : Act} {w : World} {K : Act → World → Prop} {Q : Exit → Act → World → Prop} {E : Prop}
    (hg : o.guard = none) (s x : Operand) (t : TypeId) (hop : o.op = Op.call { callee := Callee.builtin Builtin.append, args := #[s, x], argTypes := #[t, t] })
    (base : Nat) (e : TypeId) (i : TypeInfo) (z : Value) (size bytes : Nat) (h1 : P.underlying t = some (.slice e)) (h2 : P.info? e = some i) (h3 : i.zero = some z) (h4 : i.size = size) (h5 : i.bytes = bytes) (h6 : z.cells.size = size) (h7 : 0 < size)
    (v : Value) (n : Nat) (xs : List Value) (hs : a.eval s = v) (hown : w.ownsRow base e size v n xs)
    (ad : Addr) (m c : Nat) (news : List Value) (hx : a.eval x = .slice (some ad) m c) (hn : news.length = m * size) (hc : ∀ j u, news[j]? = some u → w.cell? (ad.add j) = some u) (h1c : ∀ u ∈ news, u.oneCell' = true)
    (b1 : n + m ≤ maxLen) (b2 : (n + m) * bytes ≤ 140737488355328) (hbase : base ≤ w.heap.size)
    (hK : ∀ v' w', w'.ownsRow base e size v' (n + m) (xs ++ news) → w.grownBy w' v.ownBlock → K (a.put o.dst v') w') :
    if Region.wanted o (yielded ops a.tmps) = true then Oper.wp P o a w K Q else E := by
  have hw : Region.wanted o (yielded ops a.tmps) = true := by simp [Region.wanted, hg]
  rw [if_pos hw]
  obtain ⟨v', w', hrun, r1, r2, _⟩ := run_append_own (P := P) w base t o.type e i z size bytes h1 h2 h3 h4 h5 h6 h7 v n xs hown ad m c news hn hc h1c b1 b2 hbase
  unfold Oper.wp
  simp [execOp, hop, resolve, invoke, builtin, hs, hx, hrun, Result.andThen]
  exact hK _ _ r1 r2
theorem stF_succ (h : List UInt8) (m : Nat) (hm : 1 ≤ m) : stF h m = if (word m ++ [32]).isPrefixOf h then ((m : Int), h.drop ((word m).length + 1)) else stF h (m - 1) := by
  obtain ⟨j, rfl⟩ : ∃ j, m = j + 1 := ⟨m - 1, by omega⟩
  rw [stF]
  rfl
theorem box_put {w : World} {k : Nat} {a b c : Value} {t : TypeId} (a' b' : Value) (h : w.heap[k]? = some (.cells #[a, b, c] t (0, 0))) : ((w.setCell ⟨k, 1, none⟩ b').setCell ⟨k, 0, none⟩ a').heap[k]? = some (.cells #[a', b', c] t (0, 0)) := by
  rw [heap_setCell_same _ k 0 _ t a' (heap_setCell_same w k 1 _ t b' h)]
  rfl
set_option maxHeartbeats 3200000 in
set_option maxRecDepth 100000 in
theorem refget_any (L : List UInt8) (hL : L.length ≤ 100000) (w : World) :
    Calls Tryz.prog 32 #[.string (bs L)] w fun e w' => DecTo w L e w' := by
  obtain ⟨i0, hi0, hz0, hz1, hz2⟩ := info_parts infoR
  have HT : Hid (∀ e w', DecTo w L e w' ↔ ∃ v, e = .returned (.tuple #[v, .int .i64 (dec L).1]) ∧ ERow w' v (dec L).2 ∧ Below w.heap.size w w') := hideIt (fun _ _ => Iff.rfl)
  have HIX := hideIt (index_any)
  have HCK := hideIt (refcheck_any)
  have HMO := hideIt (refmode_any)
  obtain ⟨S0, hS0⟩ : ∃ S0, bs L = S0 := ⟨_, rfl⟩
  rw [hS0]
  go_enter Tryz.func32, Tryz.ntmps32
  go_wp2
  go_loopw [0, 4] (fun t u wr => ∃ (acc : List En) (R : List UInt8) (f : Nat), t = .string (bs R) ∧ R.length ≤ f ∧ R.length ≤ 100000 ∧ decF f acc R = dec L ∧ acc.length ≤ 256 ∧ (∀ x ∈ acc, x.nm.size ≤ 100000) ∧ wr.ownsRow w.heap.size 73 3 u acc.length (esV acc) ∧ Below w.heap.size w wr) (fun t _ _ => szOf t)
  case atStart => exact ⟨[], L, L.length, by rw [hS0], Nat.le_refl _, hL, rfl, by simp, by simp, ⟨rfl, .inr ⟨w.heap.size, 0, #[], rfl, Nat.le_refl _, alloc_at rfl, by simp, by simp, rfl, rfl⟩⟩, (Below.refl _ _).alloc (Nat.le_refl _) _⟩
  case round =>
    obtain ⟨wo, hwo⟩ : ∃ wo, wo = wr := ⟨_, rfl⟩
    subst hwo
    obtain ⟨acc, R, f, rfl, hf, hR, hdec, hacc, hnm, hrow, hb⟩ := hrel
    have HO := hideIt hrow
    have HB := hideIt hb
    have HD := hideIt hdec
    have HNM := hideIt hnm
    have hws : w.heap.size ≤ wo.heap.size := hb.size
    clear hrow hb hdec hS0 hnm
    have hRs : (bs R).size = R.length := bs_size R
    obtain ⟨S1, hS1⟩ : ∃ S1, bs R = S1 := ⟨_, rfl⟩
    obtain ⟨n, hnn⟩ : ∃ n, R.length = n := ⟨_, rfl⟩
    have sI : (S1.size : Int) = (n : Int) := by rw [← hS1, hRs, hnn]
    by_cases hn : R = []
    · subst hn
      obtain rfl : n = 0 := by rw [← hnn]; rfl
      have HC := hideIt (HCK.out _ acc wo (ERow.of_row HO.out) (fun x hx => by have := HNM.out x hx; unfold maxLen; omega))
      have HD2 : Hid (dec L = fin acc) := hideIt (by rw [← HD.out, decF_end])
      obtain ⟨z, hz⟩ : ∃ z, chk acc = z := ⟨_, rfl⟩
      rw [hz] at HC
      have HZ := hideIt hz
      rw [hS1]
      clear hz HD hRs
      obtain ⟨av, cv, hv, _⟩ := ERow.of_row HO.out
      subst hv
      by_cases h0 : z = 0
      · subst h0
        go_wp2_with (first | (go_at_call 64; refine HC.out.mono ?_; rintro e w1 ⟨rfl, hb1⟩))
        go_ret2
        refine (HT.out _ _).2 ⟨.slice av acc.length cv, ?_, ?_, below2 HB.out hb1⟩
        · rw [HD2.out, fin, HZ.out]; rfl
        · rw [HD2.out, fin, if_pos HZ.out]
          exact (ERow.of_row HO.out).below hb1
      · have z1 : (z == 0) = false := by simpa using h0
        go_wp2_with (first | (go_at_call 64; refine HC.out.mono ?_; rintro e w1 ⟨rfl, hb1⟩))
        go_ret2
        refine (HT.out _ _).2 ⟨.slice none 0 0, ?_, ?_, below2 HB.out hb1⟩
        · rw [HD2.out, fin, HZ.out]; rfl
        · rw [HD2.out, fin, if_neg (by rw [HZ.out]; exact h0)]
          exact ERow.nil _
    · have hpos : 0 < n := by rw [← hnn]; exact List.length_pos_iff.2 hn
      have n1 : (0 : Int) < (n : Int) := by omega
      have n2 : decide ((0 : Int) < (n : Int)) = true := decide_eq_true n1
      have HX := hideIt (HIX.out R (by omega) wo)
      rw [hS1] at HX
      have HZP : Hid (zp R = match cut0 R with
        | none => -1
        | some p => (p.1.length : Nat)) := rfl
      cases hc : cut0 R with
      | none =>
        have hz : zp R = -1 := by rw [HZP.out, hc]
        rw [hz] at HX
        have HD2 : Hid (dec L = (4, [])) := hideIt (by rw [← HD.out, decF_err f acc R 4 hf hn (by rw [rd, hc])])
        rw [hS1]
        clear HD HZP hz hc hf
        go_wp2_with (first | (go_at_call 62; refine HX.out.mono ?_; rintro e w1 ⟨rfl, hw1⟩; obtain rfl := hw1.symm))
        go_ret2
        refine (HT.out _ _).2 ⟨.slice none 0 0, ?_, ?_, HB.out⟩
        · rw [HD2.out]; rfl
        · rw [HD2.out]
          exact ERow.nil _
      | some p =>
        obtain ⟨h, r⟩ := p
        obtain ⟨hRR, h0⟩ := cut0_some R h r hc
        obtain ⟨z, hzz⟩ : ∃ z, h.length = z := ⟨_, rfl⟩
        have hz : zp R = (z : Int) := by rw [HZP.out, hc]; simp [hzz]
        rw [hz] at HX
        obtain ⟨k, hk⟩ : ∃ k, r.length = k := ⟨_, rfl⟩
        have hsum : n = z + 1 + k := by rw [← hnn, hRR]; simp; omega
        have e1 : (n : Int) - (z : Int) = ((k + 1 : Nat) : Int) := by omega
        have e2 : ((k + 1 : Nat) : Int) - 1 = (k : Int) := by omega
        have z0 : ¬ (z : Int) < 0 := by omega
        have z1 : decide ((z : Int) < 0) = false := decide_eq_false z0
        have zI : (z : Int) ≤ 100000 := by omega
        have kI : (k : Int) ≤ 100000 := by omega
        have nI : (n : Int) ≤ 100000 := by omega
        obtain ⟨k1, hk1⟩ : ∃ k1, k + 1 = k1 := ⟨_, rfl⟩
        rw [hk1] at e1 e2
        by_cases h32 : k < 32
        · have g1 : (k : Int) < 32 := by omega
          have g2 : decide ((k : Int) < 32) = true := decide_eq_true g1
          have HD2 : Hid (dec L = (4, [])) := hideIt (by rw [← HD.out, decF_err f acc R 4 hf hn (by rw [rd, hc]; simp; omega)])
          rw [hS1]
          clear HD HZP hz hc hf hRR h0 hzz hsum hk hk1
          go_wp2_with (first | (go_at_call 62; refine HX.out.mono ?_; rintro e w1 ⟨rfl, hw1⟩; obtain rfl := hw1.symm))
          go_ret2
          refine (HT.out _ _).2 ⟨.slice none 0 0, ?_, ?_, HB.out⟩
          · rw [HD2.out]; rfl
          · rw [HD2.out]
            exact ERow.nil _
        · have g1 : ¬ (k : Int) < 32 := by omega
          have g2 : decide ((k : Int) < 32) = false := decide_eq_false g1
          obtain ⟨za, hza⟩ : ∃ za, z + 1 = za := ⟨_, rfl⟩
          obtain ⟨zb, hzb⟩ : ∃ zb, z + 33 = zb := ⟨_, rfl⟩
          have za1 : (z : Int) + 1 = (za : Int) := by omega
          have zb1 : (z : Int) + 33 = (zb : Int) := by omega
          have za2 : (za : Int) ≤ (zb : Int) := by omega
          have zb2 : (zb : Int) ≤ (n : Int) := by omega
          have zb3 : zb ≤ n := by omega
          have za3 : za ≤ zb := by omega
          have ze : z ≤ n := by omega
          have zeI : (z : Int) ≤ (n : Int) := by omega
          obtain ⟨ID, hID⟩ : ∃ ID, bs (r.take 32) = ID := ⟨_, rfl⟩
          obtain ⟨RR, hRest⟩ : ∃ RR, bs (r.drop 32) = RR := ⟨_, rfl⟩
          have x1 : S1.extract za zb = ID := by rw [← hS1, hRR, ← hza, ← hzb, ← hzz, id_bs, hID]
          have x2 : S1.extract zb n = RR := by rw [← hS1, hRR, ← hzb, ← hzz, tail_bs h r n (by rw [← hRR, hnn]), hRest]
          have zbI : IntKind.i64.wrap (zb : Int) = (zb : Int) := by rw [IntKind.wrap_i64]; omega
          have x2s : S1.extract zb S1.size = RR := by rw [show S1.size = n by omega]; exact x2
          have HNAME : Hid (∀ q, S1.extract q z = bs (h.drop q)) := hideIt (fun q => by rw [← hS1, hRR, ← hzz, mid_bs])
          have HPF : Hid (∀ wl : List UInt8, wl.length ≤ z → ((S1.extract 0 wl.length).toList == (bs wl).toList) = wl.isPrefixOf h) := hideIt (fun wl hq => by
            rw [← pfx h r wl (by omega), ByteArray.toList_eq, ByteArray.toList_eq, bs_list, ← hS1, hRR, ext_bs, bs_list]
            simp)
          have HNP : Hid (∀ wl : List UInt8, ¬ wl.length ≤ z → wl.isPrefixOf h = false) := hideIt (fun wl hq => pfx_no h wl (by omega))
          have HRD : Hid (rd R = match heads h with
            | none => .err 60
            | some (m, n) => .ok ⟨bs n, m, bs (r.take 32)⟩ (r.drop 32)) := hideIt (by
            rw [rd, hc]
            dsimp only
            rw [if_neg (by omega)]
            cases heads h <;> rfl)
          have HHL : Hid (h.length = z ∧ r.length = k ∧ R.length = n ∧ n = z + 1 + k) := hideIt ⟨hzz, hk, hnn, hsum⟩
          rw [hS1]
          clear HZP hz hc hRR h0 hzz hsum hk hk1 hza hzb
          go_wp2_with (first | (go_at_call 62; refine HX.out.mono ?_; rintro e w1 ⟨rfl, hw1⟩; obtain rfl := hw1.symm))
          go_loopw [7] (fun t wq => ∃ m : Nat, 1 ≤ m ∧ m ≤ 4 ∧ t = .int .i64 m ∧ wq.heap[wo.heap.size]? = some (.cells #[.string (bs (stF h (m - 1)).2), .int .i64 (stF h (m - 1)).1, .string ID] 73 (0, 0)) ∧ Below wo.heap.size wo wq) (fun t _ => 4 - (intOf t).toNat)
          case atStart => exact ⟨1, by omega, by omega, rfl, alloc_at rfl, (Below.refl _ _).alloc (Nat.le_refl _) _⟩
          case round =>
            obtain ⟨m, hm1, hm4, rfl, hbx, hbq⟩ := hrel
            have HBX := hideIt hbx
            have HBQ := hideIt hbq
            have hwq : wo.heap.size < wr.heap.size := block_lt hbx
            by_cases hlt : m < 4
            · have m1 : (m : Int) < 4 := by omega
              have m2 : decide ((m : Int) < 4) = true := decide_eq_true m1
              have hms := stF_succ h m hm1
              have HST := hideIt hms
              have HM := hideIt (HMO.out (m : Int) (by omega))
              have hws := word_size (m : Int)
              obtain ⟨W0, hW0⟩ : ∃ W0, bs (word m) = W0 := ⟨_, rfl⟩
              have sw0 : W0.size = (word m).length := by rw [← hW0, bs_size]
              obtain ⟨WL, hWL⟩ : ∃ WL, W0 ++ ⟨#[32]⟩ = WL := ⟨_, rfl⟩
              have hWLb : WL = bs (word m ++ [32]) := by
                rw [← hWL, ← hW0]
                apply bytes_ext
                simp [bs_list]
              obtain ⟨q, hq⟩ : ∃ q, (word m ++ [32]).length = q := ⟨_, rfl⟩
              have hq5 : q ≤ 5 := by rw [← hq]; simp; omega
              have sL : (WL.size : Int) = (q : Int) := by rw [hWLb, bs_size, hq]
              have sLn : WL.size = q := by omega
              have t1 : ¬ 9223372036854775807 < W0.size + 1 := by omega
              have t1a : ¬ 9223372036854775806 < W0.size := by omega
              have y1 : (⟨#[32]⟩ : ByteArray).size = 1 := rfl
              obtain ⟨pf, hpf⟩ : ∃ pf, (word m ++ [32]).isPrefixOf h = pf := ⟨_, rfl⟩
              have HNX : Hid (stF h m = if pf = true then ((m : Int), h.drop q) else stF h (m - 1)) := hideIt (by
                rw [HST.out, hpf, ← hq]
                simp)
              rw [hW0] at HM
              obtain ⟨b0, b1, b2⟩ := three_cells (x := ⟨bs (stF h (m - 1)).2, (stF h (m - 1)).1, ID⟩) hbx
              have HKB : Hid (∀ w1, Below wr.heap.size wr w1 → w1.heap[wo.heap.size]? = some (.cells #[.string (bs (stF h (m - 1)).2), .int .i64 (stF h (m - 1)).1, .string ID] 73 (0, 0))) := hideIt (fun w1 h1 => (h1.block _ hwq).trans HBX.out)
              clear hms hbx hbq b0 b1 b2
              by_cases hqz : q ≤ z
              · have q1 : (q : Int) ≤ (z : Int) := by omega
                have q2 : decide ((q : Int) ≤ (z : Int)) = true := decide_eq_true q1
                have q3 : (q : Int) ≤ (n : Int) := by omega
                have q4 : (0 : Int) ≤ (q : Int) := by omega
                have hcmp : ((S1.extract 0 q).toList == WL.toList) = pf := by rw [hWLb, ← hq, HPF.out _ (by omega), hpf]
                cases pf with
                | true =>
                  obtain ⟨NM, hNM⟩ : ∃ NM, bs (h.drop q) = NM := ⟨_, rfl⟩
                  have x3 : S1.extract q z = NM := by rw [HNAME.out, hNM]
                  clear hpf hWLb hq hW0
                  go_wp2_with (first | (go_at_call 63; refine (HM.out _).mono ?_; rintro e w1 ⟨rfl, hb1⟩; obtain ⟨d0, d1, d2⟩ := three_cells (x := ⟨bs (stF h (m - 1)).2, (stF h (m - 1)).1, ID⟩) (HKB.out w1 hb1); have f0 := Lib.frozen_of_heap (HKB.out w1 hb1) 0; have f1 := Lib.frozen_of_heap (HKB.out w1 hb1) 1))
                  go_region
                  go_wp2
                  go_roundw
                  case rel =>
                    refine ⟨m + 1, by omega, by omega, by go_num, ?_, ?_⟩
                    · rw [show m + 1 - 1 = m by omega, HNX.out, if_pos trivial, hNM]
                      exact box_put _ _ (HKB.out _ hb1)
                    · exact (((HBQ.out.trans (hb1.mono (Nat.le_of_lt hwq))).setCell (p := ⟨wo.heap.size, 1, none⟩) (Nat.le_refl _) _).setCell (p := ⟨wo.heap.size, 0, none⟩) (Nat.le_refl _) _).drew
                  case measure => simp [intOf]; omega
                | false =>
                  clear hpf hWLb hq hW0
                  go_wp2_with (first | (go_at_call 63; refine (HM.out _).mono ?_; rintro e w1 ⟨rfl, hb1⟩))
                  go_roundw
                  case rel => exact ⟨m + 1, by omega, by omega, by go_num, by rw [show m + 1 - 1 = m by omega, HNX.out]; exact HKB.out _ hb1, HBQ.out.trans (hb1.mono (Nat.le_of_lt hwq))⟩
                  case measure => simp [intOf]; omega
              · have q1 : ¬ (q : Int) ≤ (z : Int) := by omega
                have q2 : decide ((q : Int) ≤ (z : Int)) = false := decide_eq_false q1
                have hpf2 : pf = false := by rw [← hpf, HNP.out _ (by omega)]
                subst hpf2
                clear hpf hWLb hq hW0
                go_wp2_with (first | (go_at_call 63; refine (HM.out _).mono ?_; rintro e w1 ⟨rfl, hb1⟩))
                go_roundw
                case rel => exact ⟨m + 1, by omega, by omega, by go_num, by rw [show m + 1 - 1 = m by omega, HNX.out]; exact HKB.out _ hb1, HBQ.out.trans (hb1.mono (Nat.le_of_lt hwq))⟩
                case measure => simp [intOf]; omega
            · obtain rfl : m = 4 := by omega
              have h3 : stF h (4 - 1) = match heads h with
                | none => (0, [])
                | some p => p := stF_heads h
              have HWR := hideIt (below2 HB.out HBQ.out)
              have hwr : w.heap.size ≤ wr.heap.size := HWR.out.size
              rw [h3] at hbx
              clear h3 HBX
              cases hh : heads h with
              | none =>
                rw [hh] at hbx
                obtain ⟨b0, b1, b2⟩ := three_cells (x := ⟨⟨#[]⟩, 0, ID⟩) hbx
                have HD2 : Hid (dec L = (60, [])) := hideIt (by rw [← HD.out, decF_err f acc R 60 hf hn (by rw [HRD.out, hh])])
                clear hbx hbq hh HD hf
                go_wp2
                go_ret2
                refine (HT.out _ _).2 ⟨.slice none 0 0, ?_, ?_, HWR.out⟩
                · rw [HD2.out]; rfl
                · rw [HD2.out]
                  exact ERow.nil _
              | some p =>
                obtain ⟨md, nm⟩ := p
                rw [hh] at hbx
                obtain ⟨hhd, hmd⟩ := heads_some h md nm hh
                have hrd : rd R = .ok ⟨bs nm, md, bs (r.take 32)⟩ (r.drop 32) := by rw [HRD.out, hh]
                obtain ⟨g, hg, hdg⟩ := decF_ok1 f acc R _ _ hf hrd
                have HDG := hideIt hdg
                obtain ⟨NM, hNM⟩ : ∃ NM, bs nm = NM := ⟨_, rfl⟩
                have hNMs : NM.size ≤ 100000 := by
                  have h1 : h.length = z := HHL.out.1
                  rw [← hNM, bs_size]
                  have : nm.length ≤ h.length := by rw [hhd]; simp; omega
                  omega
                have md0 : ¬ md = 0 := by omega
                have md1 : (md == 0) = false := by simpa using md0
                rw [show (md, nm).2 = nm from rfl, show (md, nm).1 = md from rfl, hNM] at hbx
                obtain ⟨b0, b1, b2⟩ := three_cells (x := ⟨NM, md, ID⟩) hbx
                obtain ⟨u, hu⟩ : ∃ u, acc.length = u := ⟨_, rfl⟩
                have HU := hideIt hu
                have hown := own_below HO.out HBQ.out
                rw [hu] at hown hacc
                have HOW := hideIt hown
                have HKP : Hid (∀ w3 : World, (wr.drew.alloc (.cells #[.string NM, .int .i64 md, .string ID] 73)).grownBy w3 (Value.ownBlock _) → w3.cell? ⟨wo.heap.size, 0, none⟩ = some (.string NM) ∧ w3.cell? ⟨wo.heap.size, 1, none⟩ = some (.int .i64 md) ∧ w3.cell? ⟨wo.heap.size, 2, none⟩ = some (.string ID)) := hideIt (fun w3 hg => by
                  refine three_cells (x := ⟨NM, md, ID⟩) (t := 73) (fr := (0, 0)) ?_
                  rw [hg.block wo.heap.size (by simp; omega) (fun e => by have := (HO.out.lt _ e.symm).2; omega)]
                  exact (Below.heap_alloc wr.drew _ _ hwq).trans hbx)
                clear hbx hbq hh hdg hrd hf hown hu hhd
                go_wp2
                go_region_held3 (fun X => X.cell? ⟨wo.heap.size, 0, none⟩ = some (.string NM) ∧ X.cell? ⟨wo.heap.size, 1, none⟩ = some (.int .i64 md) ∧ X.cell? ⟨wo.heap.size, 2, none⟩ = some (.string ID)) (first | exact ⟨b0, b1, b2⟩ | exact HKP.out _ hg3 | go_keep) (first | (refine step_append_own (by rfl) _ _ 69 (by rfl) w.heap.size 73 i0 (.agg #[.string ⟨#[]⟩, .int .i64 0, .string ⟨#[]⟩]) 3 40 Tryz.underlying69 hi0 hz0 hz1 hz2 rfl (by decide) _ _ _ (by rfl) (HOW.out.drew.alloc _) ⟨wr.heap.size, 0, none⟩ 1 1 [.string NM, .int .i64 md, .string ID] (by rfl) rfl (three_new (w := wr.drew) ⟨NM, md, ID⟩ _) (fun u hu => by simp at hu; rcases hu with rfl | rfl | rfl <;> rfl) (by unfold maxLen; omega) (by omega) (by simp; omega) ?_; intro v3 w3 hown3 hg3))
                have hb3 : Below w.heap.size w w3 := Below.grown ((HWR.out.drew.alloc (by simp; omega) _)) hg3 (by simp; omega) (row_ge HOW.out)
                have hown4 : w3.ownsRow w.heap.size 73 3 v3 (acc ++ [(⟨NM, md, ID⟩ : En)]).length (esV (acc ++ [(⟨NM, md, ID⟩ : En)])) := by
                  rw [esV_snoc]
                  simpa [HU.out] using hown3
                have HO4 := hideIt hown4
                have HB3 := hideIt hb3
                obtain ⟨va, vc, hv3, _⟩ := ERow.of_row hown4
                obtain ⟨u1, hu1⟩ : ∃ u1, (acc ++ [(⟨NM, md, ID⟩ : En)]).length = u1 := ⟨_, rfl⟩
                rw [hu1] at hv3
                have hu2 : u + 1 = u1 := by rw [← hu1, ← HU.out]; simp
                subst hv3
                have HU1 := hideIt hu1
                clear hown3 hg3 hb3 hown4 hu1
                by_cases h256 : u = 256
                · have m1 : (256 : Int) < (u1 : Int) := by omega
                  have m2 : decide ((256 : Int) < (u1 : Int)) = true := decide_eq_true m1
                  clear hu2
                  go_wp2
                  go_ret2
                  refine (HT.out _ _).2 ⟨.slice none 0 0, ?_, ?_, HB3.out⟩
                  · rw [← HD.out, HDG.out, if_pos (by rw [HU.out]; exact h256)]; rfl
                  · rw [← HD.out, HDG.out, if_pos (by rw [HU.out]; exact h256)]
                    exact ERow.nil _
                · have m1 : ¬ (256 : Int) < (u1 : Int) := by omega
                  have m2 : decide ((256 : Int) < (u1 : Int)) = false := decide_eq_false m1
                  have hle : u1 ≤ 256 := by omega
                  clear hu2
                  go_wp2
                  go_roundw
                  case rel =>
                    refine ⟨acc ++ [⟨NM, md, ID⟩], r.drop 32, g, by rw [hRest], hg, ?_, ?_, by rw [HU1.out]; exact hle, ?_, by have := HO4.out; rw [HU1.out] at this; rw [HU1.out]; exact this, HB3.out⟩
                    · have := HHL.out
                      rw [List.length_drop]
                      omega
                    · rw [← HD.out, HDG.out, if_neg (by rw [HU.out]; exact h256), hNM, hID]
                    · intro x hx
                      rcases List.mem_append.1 hx with hx | hx
                      · exact HNM.out x hx
                      · simp at hx
                        subst hx
                        exact hNMs
                  case measure =>
                    have := HHL.out
                    rw [← hRest, ← hS1]
                    simp [szOf, bs_size]
                    omega
end Go.Proofs.YtmjffngpaoaflaaGreatDoor
