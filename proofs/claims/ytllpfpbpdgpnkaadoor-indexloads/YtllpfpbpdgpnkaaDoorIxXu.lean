/- Indexes: where an id stands among spots that rise: walked. -/
import Derived.Test.YtllpfpbpdgpnkaaDoorIxXt
namespace Go.Proofs.YtllpfpbpdgpnkaaDoor.Ix
open Cb Go.RowKit Go.Shelf
set_option maxHeartbeats 800000 in
set_option maxRecDepth 100000 in
theorem against_any (x : Sp) (t : ByteArray) (w : World) : Calls Tryd.prog 35 #[.agg #[.string x.d, .int .i64 x.pl], .string t] w fun e w' => e = .returned (.int .i64 (Lib.compareBytes x.d.data.toList t.data.toList)) ∧ Below w.heap.size w w' := by
  have HC := hideIt (Tryd.strings_Compare x.d t)
  obtain ⟨W, hW⟩ : ∃ W, w.alloc (.cells #[.string x.d, .int .i64 x.pl] 38) = W := ⟨_, rfl⟩
  have hbW : Below w.heap.size w W := by rw [← hW]; exact (Below.refl _ _).alloc (Nat.le_refl _) _
  have c0 : W.cell? ⟨w.heap.size, 0, none⟩ = some (.string x.d) := cellAt (by rw [← hW]; exact alloc_at rfl) rfl
  have HB := hideIt hbW
  clear hbW
  go_enter Tryd.func35, Tryd.ntmps35
  go_wp2_with (first | (go_at_call 36; refine (HC.out _).mono ?_; rintro e w1 ⟨rfl, hw1⟩; obtain rfl := hw1.symm))
  go_ret
  exact ⟨rfl, HB.out⟩
set_option maxHeartbeats 1600000 in
set_option maxRecDepth 100000 in
theorem search_any (v : Value) (l : List Sp) (t : ByteArray) (w : World) (h : SRow w v l) (hn : l.length ≤ 1000000) (hu : Up l) :
    Calls Tryd.prog 34 #[v, .string t, .func (.func 35) #[] #[]] w fun e w' => e = .returned (.tuple #[.int .i64 (pos l t : Nat), .bool (found l t)]) ∧ Below w.heap.size w w' := by
  obtain ⟨a, c, rfl, hlc, hcm, hrow⟩ := h
  have HR := hideIt hrow
  have HA := hideIt (against_any)
  have HU := hideIt hu
  have HC := hideIt (cmp_lt)
  obtain ⟨p, hp⟩ : ∃ p, pos l t = p := ⟨_, rfl⟩
  obtain ⟨f, hf⟩ : ∃ f, found l t = f := ⟨_, rfl⟩
  rw [hp, hf]
  have HP := hideIt hp
  have HF := hideIt hf
  obtain ⟨n, hnn⟩ : ∃ n, l.length = n := ⟨_, rfl⟩
  rw [hnn] at hlc hn ⊢
  have HN := hideIt hnn
  clear hnn hrow hu hp hf
  go_enter Tryd.func34, Tryd.ntmps34
  go_wp2
  go_loopw [9, 10] (fun s9 s10 wr => ∃ lo hi : Nat, s9 = .int .i64 lo ∧ s10 = .int .i64 hi ∧ lo ≤ hi ∧ hi ≤ n ∧ Below w.heap.size w wr ∧ (∀ i x, i < lo → l[i]? = some x → less x.d t = true) ∧ (∀ i x, hi ≤ i → l[i]? = some x → less x.d t = false)) (fun s9 s10 _ => (intOf s10 - intOf s9).toNat)
  case atStart => exact ⟨0, n, rfl, rfl, by omega, by omega, Below.refl _ _, fun i x hi => by omega, fun i x hi hx => by have := (List.getElem?_eq_some_iff.1 hx).1; rw [HN.out] at this; omega⟩
  case round =>
    obtain ⟨lo, hi, rfl, rfl, hlh, hin, hb, hlo, hhi⟩ := hrel
    have HB := hideIt hb
    have HLO := hideIt hlo
    have HHI := hideIt hhi
    clear hb hlo hhi
    by_cases hlt : lo < hi
    · obtain ⟨mid, hmid⟩ : ∃ mid, (lo + hi) / 2 = mid := ⟨_, rfl⟩
      have m1 : ((lo : Int) + (hi : Int)) / 2 = (mid : Int) := by omega
      have m2 : lo ≤ mid ∧ mid < hi := by omega
      have m3 : (mid : Int) < (n : Int) := by omega
      obtain ⟨b, o, rfl, hcells⟩ := HR.out (by rw [HN.out]; omega)
      obtain ⟨x, hxi⟩ : ∃ x, l[mid]? = some x := ⟨l[mid]'(by rw [HN.out]; omega), by simp⟩
      obtain ⟨c0, c1⟩ := (hcells.below HB.out).2 mid x hxi
      have HXI := hideIt hxi
      have hc := HC.out x.d t
      have HA2 := hideIt (HA.out x t)
      obtain ⟨z, hz⟩ : ∃ z, Lib.compareBytes x.d.data.toList t.data.toList = z := ⟨_, rfl⟩
      rw [hz] at hc HA2
      have HC1 := hideIt hc.1
      clear hmid hxi hcells hc hz
      by_cases hz0 : z < 0
      · have z1 : decide (z < 0) = true := decide_eq_true hz0
        go_wp2_with (first | (go_at_call 35; refine (HA2.out _).mono ?_; rintro e w1 ⟨rfl, hb1⟩))
        go_roundw
        case rel =>
          refine ⟨mid + 1, hi, by go_num, rfl, by omega, hin, below2 HB.out hb1, fun i y hi' hy => ?_, HHI.out⟩
          have hx := HC1.out.1 hz0
          rcases (by omega : i < mid ∨ i = mid) with h | h
          · exact less_trans (HU.out.at h hy HXI.out) hx
          · subst h
            rw [HXI.out] at hy
            cases hy
            exact hx
        case measure => simp [intOf]; omega
      · have z1 : decide (z < 0) = false := decide_eq_false hz0
        go_wp2_with (first | (go_at_call 35; refine (HA2.out _).mono ?_; rintro e w1 ⟨rfl, hb1⟩))
        go_roundw
        case rel =>
          refine ⟨lo, mid, rfl, rfl, by omega, by omega, below2 HB.out hb1, HLO.out, fun i y hi' hy => ?_⟩
          have hx : less x.d t = false := by
            cases hh : less x.d t with
            | false => rfl
            | true => exact absurd (HC1.out.2 hh) (by omega)
          rcases (by omega : mid < i ∨ i = mid) with h | h
          · cases hh : less y.d t with
            | false => rfl
            | true => rw [less_trans (HU.out.at h HXI.out hy) hh] at hx; cases hx
          · subst h
            rw [HXI.out] at hy
            cases hy
            exact hx
        case measure => simp [intOf]; omega
    · obtain rfl : lo = hi := by omega
      have hpl : p = lo := by rw [← HP.out]; exact countP_at _ l lo (by rw [HN.out]; omega) HLO.out HHI.out
      subst hpl
      by_cases hpn : p < n
      · have m3 : (p : Int) < (n : Int) := by omega
        have m4 : decide ((p : Int) < (n : Int)) = true := decide_eq_true m3
        obtain ⟨b, o, rfl, hcells⟩ := HR.out (by rw [HN.out]; omega)
        obtain ⟨x, hxi⟩ : ∃ x, l[p]? = some x := ⟨l[p]'(by rw [HN.out]; omega), by simp⟩
        obtain ⟨c0, c1⟩ := (hcells.below HB.out).2 p x hxi
        have hc := HC.out x.d t
        have HA2 := hideIt (HA.out x t)
        have HF2 : Hid (f = decide (x.d = t)) := hideIt (by rw [← HF.out, found, HP.out, hxi])
        obtain ⟨z, hz⟩ : ∃ z, Lib.compareBytes x.d.data.toList t.data.toList = z := ⟨_, rfl⟩
        rw [hz] at hc HA2
        have HC2 := hideIt hc.2
        clear hxi hcells hc hz
        by_cases hz0 : z = 0
        · subst hz0
          go_wp2_with (first | (go_at_call 35; refine (HA2.out _).mono ?_; rintro e w1 ⟨rfl, hb1⟩))
          go_ret2
          refine ⟨?_, below2 HB.out hb1⟩
          rw [HF2.out, decide_eq_true (HC2.out.1 (by first | rfl | trivial))]
          rfl
        · have z1 : (z == 0) = false := by simpa using hz0
          go_wp2_with (first | (go_at_call 35; refine (HA2.out _).mono ?_; rintro e w1 ⟨rfl, hb1⟩))
          go_ret2
          refine ⟨?_, below2 HB.out hb1⟩
          rw [HF2.out, decide_eq_false (fun h => hz0 (HC2.out.2 h))]
          rfl
      · have m4 : decide ((p : Int) < (n : Int)) = false := decide_eq_false (by omega)
        have HF2 : Hid (f = false) := hideIt (by
          rw [← HF.out, found, HP.out, List.getElem?_eq_none (by rw [HN.out]; omega)])
        go_wp2
        go_ret2
        refine ⟨?_, HB.out⟩
        rw [HF2.out]
        rfl
end Go.Proofs.YtllpfpbpdgpnkaaDoor.Ix
