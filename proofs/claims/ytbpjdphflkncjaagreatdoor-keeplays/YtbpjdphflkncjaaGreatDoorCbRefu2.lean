/- The document's reading of digits, walked. -/
import Derived.Test.YtbpjdphflkncjaaGreatDoorCbRefh
namespace Go.Proofs.YtbpjdphflkncjaaGreatDoor.Cb
open Go.RowKit
theorem one_cell {w : World} (x : UInt8) (X : Value) (hx : X = .int .u8 (x.toNat : Int)) (j : Nat) (u : Value) (h : (u8s [x])[j]? = some u) :
    (w.alloc (.cells #[X] 5)).cell? ((⟨w.heap.size, 0, none⟩ : Addr).add j) = some u := by
  subst hx
  rw [Addr.add_lit, Nat.zero_add, World.cell?_alloc_at _ _ _ _ rfl]
  match j, h with
  | 0, h => simpa [u8s] using h
structure RuMem (N m : Nat) (l outs : List UInt8) (v : Value) (w0 w : World) : Prop where
  below : Below N w0 w
  own : w.ownsRow N 5 1 v m (u8s outs)
  tells : Cd.unhexL l = (Cd.unhexL (l.drop (2 * m))).map (fun r => outs ++ r)
theorem RuMem.stop {N m : Nat} {l outs : List UInt8} {v : Value} {w0 w : World} (h : RuMem N m l outs v w0 w) {a : UInt8} (hd : l.drop (2 * m) = a :: l.drop (2 * m + 1)) (hv : ¬ Cd.val a < 16) : Cd.unhexL l = none := by
  rw [h.tells, hd]
  cases l.drop (2 * m + 1) with
  | nil => rfl
  | cons b t => rw [Cd.unhexL, if_neg (fun h => hv h.1)]; rfl
theorem RuMem.half {N m : Nat} {l outs : List UInt8} {v : Value} {w0 w : World} (h : RuMem N m l outs v w0 w) (hl : 2 * m + 1 = l.length) : Cd.unhexL l = none := by
  rw [h.tells]
  have : ∃ a, l.drop (2 * m) = [a] := by
    refine ⟨l[2 * m]'(by omega), ?_⟩
    rw [List.drop_eq_getElem_cons (by omega), List.drop_of_length_le (by omega)]
  obtain ⟨a, e⟩ := this
  rw [e]
  rfl
theorem RuMem.stop2 {N m : Nat} {l outs : List UInt8} {v : Value} {w0 w : World} (h : RuMem N m l outs v w0 w) {a b : UInt8} (hd : l.drop (2 * m) = a :: b :: l.drop (2 * (m + 1))) (hv : ¬ Cd.val b < 16) : Cd.unhexL l = none := by
  rw [h.tells, hd, Cd.unhexL, if_neg (fun h => hv h.2)]
  rfl
theorem RuMem.next {N m : Nat} {l outs : List UInt8} {v v' : Value} {w0 w w2 : World} {o : Obj} (h : RuMem N m l outs v w0 w) {a b x : UInt8} (hd : l.drop (2 * m) = a :: b :: l.drop (2 * (m + 1))) (ha : Cd.val a < 16) (hb : Cd.val b < 16)
    (hx : UInt8.ofNat (16 * Cd.val a + Cd.val b) = x) (hN : N ≤ w0.heap.size) (h2 : w2.ownsRow N 5 1 v' (m + 1) (u8s outs ++ u8s [x])) (hg : (w.alloc o).drew.grownBy w2 v.ownBlock) :
    RuMem N (m + 1) l (outs ++ [x]) v' w0 w2 := by
  have hs := h.below.size
  refine ⟨((h.below.alloc (by omega) o).drew).grown hg (by simp; omega) (own_ge h.own), by rw [u8s_append]; exact h2, ?_⟩
  rw [h.tells, hd, Cd.unhexL, if_pos ⟨ha, hb⟩, hx]
  cases Cd.unhexL (l.drop (2 * (m + 1))) <;> simp
theorem RuMem.fin {N m : Nat} {l outs : List UInt8} {v : Value} {w0 w : World} (h : RuMem N m l outs v w0 w) (hl : l.length = 2 * m) : Cd.unhexL l = some outs := by
  rw [h.tells, List.drop_of_length_le (by omega)]
  simp [Cd.unhexL]
theorem drop_one (s : ByteArray) (p : Nat) (h1 : p < s.size) : s.data.toList.drop p = s[p] :: s.data.toList.drop (p + 1) := by
  rw [List.drop_eq_getElem_cons (by rw [str_len]; exact h1)]
  rfl
set_option maxHeartbeats 800000 in
set_option maxRecDepth 100000 in
theorem refunhex_any (s : ByteArray) (w : World) (hs : s.size ≤ 1000000) :
    Calls Tryz.prog 57 #[.string s] w fun e w' => e = .returned (unhexV (Cd.unhexL s.data.toList)) ∧ Below w.heap.size w w' := by
  obtain ⟨n, hn⟩ : ∃ n, s.size = n := ⟨_, rfl⟩
  have hni : (s.size : Int) = (n : Int) := by rw [hn]
  obtain ⟨i0, hi0, hz0, hz1, hz2⟩ := info_parts infoB
  go_enter Tryz.func57, Tryz.ntmps57
  go_wp2
  go_loopw [4, 5] (fun v t wr => ∃ k m : Nat, k ≤ n ∧ t = .int .i64 k ∧ ∃ outs, RuMem w.heap.size m s.data.toList outs v w wr ∧ (k = 2 * m ∨ (k = 2 * m + 1 ∧ k < n ∧ ∃ h : 2 * m < s.size, Cd.val s[2 * m] < 16))) (fun _ t _ => n - (intOf t).toNat)
  case atStart => exact ⟨0, 0, by omega, rfl, [], ⟨(Below.refl _ _).alloc (Nat.le_refl _) _, ⟨rfl, Or.inr ⟨w.heap.size, 0, #[], rfl, Nat.le_refl _, alloc_at rfl, Nat.le_refl _, by unfold maxLen; omega, rfl, rfl⟩⟩, by simp⟩, Or.inl rfl⟩
  case round =>
    obtain ⟨k, m, hk, rfl, outs, hm, hc⟩ := hrel
    by_cases hlt : k < n
    · have hid : decide ((k : Int) < (n : Int)) = true := by simp; omega
      have hks : k < s.size := by omega
      have b1 : (0 : Int) ≤ (k : Int) := by omega
      have b2 : (k : Int) < (s.size : Int) := by omega
      obtain ⟨b, hb⟩ : ∃ b, s[k] = b := ⟨_, rfl⟩
      have HV := hideIt (value_any b)
      obtain ⟨y, hy⟩ : ∃ y, Cd.val b = y := ⟨_, rfl⟩
      rw [hy] at HV
      have HW := hideIt hm.below
      by_cases hyl : y < 16
      · have d1 : decide ((15 : Int) < (y : Int)) = false := decide_eq_false (by omega)
        rcases hc with hc | ⟨hc, hc2, hp, hpv⟩
        · have m2 : (k : Int) % 2 = 0 := by omega
          have m3 : decide ((k : Int) % 2 = 0) = true := decide_eq_true m2
          by_cases hend : k + 1 = n
          · have HU := hideIt (hm.half (by rw [str_len]; omega))
            have e1 : (k : Int) + 1 = (n : Int) := by omega
            clear hm hc hend hy
            go_wp2_with (first | (go_at_call 81; refine (HV.out _).mono ?_; rintro e w1 ⟨rfl, rfl⟩))
            go_ret2
            exact ⟨by rw [HU.out]; rfl, HW.out⟩
          · have e1 : ((k : Int) + 1 == (n : Int)) = false := by simp; omega
            have e2 : ¬ (k : Int) + 1 = (n : Int) := by omega
            have HM : Hid (∃ h : 2 * m < s.size, Cd.val s[2 * m] < 16) := hideIt ⟨by omega, by subst hc; rw [hb, hy]; exact hyl⟩
            have HR := hideIt hm
            have HC := hideIt hc
            clear hm hc hend hy
            go_wp2_with (first | (go_at_call 81; refine (HV.out _).mono ?_; rintro e w1 ⟨rfl, rfl⟩))
            go_roundw
            case rel => exact ⟨k + 1, m, by omega, by go_num, outs, HR.out, Or.inr ⟨by have := HC.out; omega, by omega, HM.out⟩⟩
            case measure => simp [intOf]; omega
        · obtain ⟨p, hpp⟩ : ∃ p, p = 2 * m := ⟨_, rfl⟩
          have hd := drop_two s m p hpp (by omega) (by omega)
          have hps : p < s.size := by omega
          obtain ⟨a, ha⟩ : ∃ a, s[p] = a := ⟨_, rfl⟩
          have hb' : s[p + 1] = b := by rw [← hb]; congr 1; omega
          rw [ha, hb'] at hd
          have hva : Cd.val a < 16 := by rw [← ha]; subst hpp; exact hpv
          have HA := hideIt (value_any a)
          obtain ⟨x, hx⟩ : ∃ x, Cd.val a = x := ⟨_, rfl⟩
          obtain ⟨v, hvv⟩ : ∃ v, UInt8.ofNat (16 * x + y) = v := ⟨_, rfl⟩
          have HN := hideIt (fun (v' : Value) (w2 : World) (o : Obj) => hm.next (v' := v') (w2 := w2) (o := o) (x := v) hd hva (by rw [hy]; exact hyl) (by rw [hx, hy, hvv]) (Nat.le_refl _))
          rw [hx] at HA hva
          have hvn : v.toNat = 16 * x + y := by rw [← hvv, UInt8.toNat_ofNat']; omega
          have m2 : (k : Int) % 2 = 1 := by omega
          have q1 : (k : Int) - 1 = (p : Int) := by omega
          have q2 : (p : Int) < (s.size : Int) := by omega
          have q3 : (0 : Int) ≤ (p : Int) := by omega
          have hp64 := wrap_small (p : Int) (by omega) (by omega)
          have r1 := wrap_small (16 * (x : Int)) (by omega) (by omega)
          have r2 : 16 * (x : Int) + (y : Int) = (v.toNat : Int) := by omega
          have r3 := wrap_small (v.toNat : Int) (by omega) (by omega)
          have r4 : IntKind.u8.wrap (v.toNat : Int) = (v.toNat : Int) := by rw [IntKind.wrap_u8]; omega
          have r5 : (k : Int).tmod 2 = 1 := tmod_nat k 1 2 m2
          have own := hm.own
          have HC := hideIt hc
          have hms : m ≤ 1000000 := by omega
          clear hx hd hy hvv hvn hb' hpp hpv hc hp hm
          go_wp2_with (first | (go_at_call 81; refine (HV.out _).mono ?_; rintro e w1 ⟨rfl, rfl⟩))
          go_region_held3 (fun _ => True) (trivial) (first | (go_at_call_of 81 (Value.int .u8 (a.toNat : Int)); refine (HA.out _).mono ?_; rintro e w1 ⟨rfl, rfl⟩) | (go_at_call 81; refine (HV.out _).mono ?_; rintro e w1 ⟨rfl, rfl⟩) | (refine step_append_own (by rfl) _ _ 110 (by rfl) w.heap.size 5 i0 (.int .u8 0) 1 1 Tryz.underlying110 hi0 hz0 hz1 hz2 rfl (by decide) u4 _ _ (by rfl) (own.drew.alloc _) ⟨w1.heap.size, 0, none⟩ 1 1 (u8s [v]) (by rfl) rfl (one_cell v _ rfl) (u8s_one _) (by unfold maxLen; omega) (by omega) (by have := HW.out.size; simp; omega) ?_; intro v' w2 hown2 hg2))
          all_goals (have R := HN.out v' w2 _ hown2 hg2; clear hown2 hg2 own)
          all_goals go_wp2
          all_goals go_roundw
          all_goals first | exact ⟨k + 1, m + 1, by omega, by go_num, _, R, Or.inl (by have := HC.out; omega)⟩ | (simp [intOf]; omega)
      · have d1 : decide ((15 : Int) < (y : Int)) = true := decide_eq_true (by omega)
        have HU : Hid (Cd.unhexL s.data.toList = none) := by
          refine hideIt ?_
          rcases hc with hc | ⟨hc, hc2, hp, hpv⟩
          · subst hc
            exact hm.stop (drop_one s _ hks) (by rw [hb, hy]; exact hyl)
          · subst hc
            exact hm.stop2 (drop_two s m _ rfl hp hks) (by rw [hb, hy]; exact hyl)
        clear hm hc hy
        go_wp2_with (first | (go_at_call 81; refine (HV.out _).mono ?_; rintro e w1 ⟨rfl, rfl⟩))
        go_ret2
        exact ⟨by rw [HU.out]; rfl, HW.out⟩
    · obtain rfl : k = n := by omega
      have hkm : k = 2 * m := by
        rcases hc with hc | ⟨hc, hc2, _⟩
        · exact hc
        · omega
      have e := hm.fin (by rw [str_len, hn]; exact hkm)
      have hcv := run_own hm.own
      have HE := hideIt e
      have HW := hideIt hm.below
      clear hm e hc hkm
      go_wp2
      go_ret2
      exact ⟨by rw [HE.out]; rfl, HW.out⟩
end Go.Proofs.YtbpjdphflkncjaaGreatDoor.Cb
