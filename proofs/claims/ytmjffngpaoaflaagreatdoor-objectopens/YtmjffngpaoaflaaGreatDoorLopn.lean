/- The law ObjectOpens, walked. -/
import Derived.Test.YtmjffngpaoaflaaGreatDoorLkc
import Derived.Test.YtmjffngpaoaflaaGreatDoorLkd
import Derived.BigQuiet
namespace Go.Proofs.YtmjffngpaoaflaaGreatDoor
namespace Ob
open Go.RowKit Go.Shelf
theorem flipO {P : Program} {f : Nat} {a : Array Value} {w : World} {v : Value} (h : Calls P f a w fun e w' => e = .returned v ∧ w' = w) : Calls P f a w fun e w' => e = .returned v ∧ w = w' := h.mono fun _ _ h => ⟨h.1, h.2.symm⟩
set_option maxHeartbeats 6400000 in
set_option maxRecDepth 100000 in
theorem opens_law (s : ByteArray) (w : World) (hk : Ok w) (hs : s.size ≤ maxLen) :
    Calls Tryz.prog 3 #[.string s] w fun e w' => e = .returned (.bool true) ∧ Below w.heap.size w w' := by
  have HOK := hideIt hk
  have HF := hideIt (fun w => flipO (few_any s w hs))
  have hsz := fewS_size s
  obtain ⟨F, hF⟩ : ∃ F, fewS s = F := ⟨_, rfl⟩
  rw [hF] at HF hsz
  obtain ⟨L, hL⟩ : ∃ L, F = bs L := of_bs F
  have hLl : L.length ≤ 5000 := by rw [← bs_size, ← hL]; exact hsz
  have HO := hideIt (fun w hk => open_any L (by omega) w hk)
  have HRO := hideIt (fun w => refopen_any L (by omega) w)
  have HA := hideIt awake_any
  have HTO : Hid (∀ w e w', LkTo w (links L) e w' → ∃ a c, e = .returned (.tuple #[.slice a (links L).1.length c, .int .i64 (links L).2]) ∧ (links L).1.length ≤ c ∧ c ≤ 9223372036854775807 ∧ (0 < (links L).1.length → ∃ b o, a = some ⟨b, o, none⟩ ∧ LCells w' b o (links L).1) ∧ Below w.heap.size w w') := hideIt (by
    rintro w e w' ⟨v, rfl, ⟨a, c, rfl, h1, h2, h3⟩, h4⟩
    have := h2.1
    unfold maxLen at this
    exact ⟨a, c, rfl, h1, by omega, h3, h4⟩)
  have HK := hideIt (fun w hk => links_any L w (by omega) hk)
  have HRK := hideIt (fun w => reflinks_any L w (by omega))
  unfold opV at HO HRO
  obtain ⟨k, hkk⟩ : ∃ k, (opn L).1 = k := ⟨_, rfl⟩
  obtain ⟨b, hb⟩ : ∃ b, (opn L).2.1 = b := ⟨_, rfl⟩
  obtain ⟨z, hz⟩ : ∃ z, (opn L).2.2 = z := ⟨_, rfl⟩
  rw [hkk, hb, hz] at HO HRO
  obtain ⟨Y, hY⟩ : ∃ S, bs b = S := ⟨_, rfl⟩
  rw [hY] at HO HRO
  rw [← hL] at HO HRO HK HRK
  obtain ⟨l, hl⟩ : ∃ l, (links L).1 = l := ⟨_, rfl⟩
  obtain ⟨g, hg⟩ : ∃ g, (links L).2 = g := ⟨_, rfl⟩
  rw [hl, hg] at HTO
  obtain ⟨n, hn⟩ : ∃ n, l.length = n := ⟨_, rfl⟩
  have HN := hideIt hn
  rw [hn] at HTO
  have q1 : (Y.toList != Y.toList) = false := by simp
  have q2 : (k != k) = false := by simp
  have q3 : (z != z) = false := by simp
  have q4 : (g != g) = false := by simp
  have q5 : ((n : Int) != (n : Int)) = false := by simp
  clear hk hs hF hsz hL hkk hb hz hY hl hg hn
  go_enter Tryz.func3, Tryz.ntmps3
  go_wp2_with (first
    | (go_at_call 8; refine (HF.out _).mono ?_; rintro e w1 ⟨rfl, rfl⟩)
    | (go_at_call 7; refine (HO.out _ HOK.out).mono ?_; rintro e w2 ⟨rfl, hb2⟩; have B2 := hideIt hb2; clear hb2)
    | (go_at_call 9; refine (HRO.out _).mono ?_; rintro e w3 ⟨rfl, hb3⟩; have B3 := hideIt (below2 B2.out hb3); clear hb3)
    | (go_at_call 10; refine (HK.out _ (HOK.out.below B3.out)).mono ?_; intro e w4 hlk; obtain ⟨a4, c4, rfl, hlc4, hm4, hr4, hb4⟩ := HTO.out _ _ _ hlk; have R4 := hideIt hr4; have B4 := hideIt (below2 B3.out hb4); clear hlk hr4 hb4)
    | (go_at_call 11; refine (HRK.out _).mono ?_; intro e w5 hlk; obtain ⟨a5, c5, rfl, hlc5, hm5, hr5, hb5⟩ := HTO.out _ _ _ hlk; have R5 := hideIt hr5; have Q5 := hideIt hb5; have B5 := hideIt (below2 B4.out hb5); clear hlk hr5 hb5)
    | (go_at_call 12; refine (HA.out _ (HOK.out.below B5.out)).mono ?_; rintro e w6 ⟨rfl, hb6⟩; have Q6 := hideIt hb6; have B6 := hideIt (below2 B5.out hb6); clear hb6))
  have nI : (n : Int) ≤ 9223372036854775807 := by omega
  have HM : Hid (0 < n → ∃ b o, a4 = some ⟨b, o, none⟩ ∧ LCells w6 b o l) := hideIt (fun h => by
    obtain ⟨b, o, e, hc⟩ := R4.out h
    exact ⟨b, o, e, (hc.below Q5.out).below Q6.out⟩)
  have HR : Hid (0 < n → ∃ b o, a5 = some ⟨b, o, none⟩ ∧ LCells w6 b o l) := hideIt (fun h => by
    obtain ⟨b, o, e, hc⟩ := R5.out h
    exact ⟨b, o, e, hc.below Q6.out⟩)
  go_loopw [13] (fun t wr => ∃ i : Nat, i ≤ n ∧ t = .int .i64 i ∧ Below w6.heap.size w6 wr) (fun t _ => n - (intOf t).toNat)
  case atStart => exact ⟨0, by omega, rfl, Below.refl _ _⟩
  case round =>
    obtain ⟨i, hi, rfl, hbl⟩ := hrel
    have HBL := hideIt hbl
    clear hbl
    by_cases hlt : i < n
    · have i1 : decide ((i : Int) < (n : Int)) = true := decide_eq_true (by omega)
      have i2 : (i : Int) < (n : Int) := by omega
      obtain ⟨b1, o1, e1, h1⟩ := HM.out (by omega)
      obtain ⟨b2, o2, e2, h2⟩ := HR.out (by omega)
      subst e1 e2
      obtain ⟨x, hxi⟩ : ∃ x, l[i]? = some x := ⟨l[i]'(by rw [HN.out]; exact hlt), by simp⟩
      obtain ⟨c1, c2⟩ := (h1.below HBL.out).2 i x hxi
      obtain ⟨d1, d2⟩ := (h2.below HBL.out).2 i x hxi
      obtain ⟨kd, ids⟩ := x
      simp only at c1 c2 d1 d2
      have z1 : (ids.toList == ids.toList) = true := by simp
      have z2 : (kd == kd) = true := by simp
      clear h1 h2 hxi
      go_wp2
      go_quiet (fail)
      go_wp2
      go_roundw
      case rel => exact ⟨i + 1, by omega, by go_num, below2 HBL.out (below_drewN _ _)⟩
      case measure => simp [intOf]; omega
    · obtain rfl : i = n := by omega
      have i1 : decide ((i : Int) < (i : Int)) = false := decide_eq_false (by omega)
      go_wp2
      go_ret
      exact ⟨rfl, below2 B6.out HBL.out⟩
end Ob
end Go.Proofs.YtmjffngpaoaflaaGreatDoor
