/- The laws of decimal digits, walked. -/
import Derived.Test.YtnldocaeaplghaaDoorRefud
namespace Go.Proofs.YtnldocaeaplghaaDoor
open Go.RowKit
theorem flipC {P : Program} {f : Nat} {a : Array Value} {w : World} {v : Value} (h : Calls P f a w fun e w' => e = .returned v ∧ w' = w) : Calls P f a w fun e w' => e = .returned v ∧ w = w' := h.mono fun _ _ h => ⟨h.1, h.2.symm⟩
set_option maxHeartbeats 800000 in
set_option maxRecDepth 100000 in
theorem dec_law (n : Nat) (w : World) (hn : n < 18446744073709551616) (ht : Tab w) (he : Errs w) :
    Calls Tryd.prog 3 #[.int .u64 (n : Int)] w fun e w' => e = .returned (.bool true) ∧ Below w.heap.size w w' := by
  have HT := hideIt ht
  have HE := hideIt he
  clear ht he
  have HD := hideIt (fun w h => dec_any n w hn h)
  have HR := hideIt (fun w => refdec_any n w hn)
  obtain ⟨x, hx⟩ : ∃ x, bs (Lib.decDigits n) = x := ⟨_, rfl⟩
  rw [hx] at HD HR
  have xs : x.size ≤ 20 := by
    rw [← hx, bs_size, Lib.decDigits_length]
    by_cases h0 : n < 10
    · rw [Lib.nDigits_small h0]; omega
    · exact nd20 n (by omega) hn
  have HU := hideIt (fun w h1 h2 => undec_any x w (by omega) h1 h2)
  have e1 : udV (Dd.und x.data.toList) = .tuple #[.int .u64 (n : Int), .int .i64 0] := by
    rw [← hx, bs_list, Dd.und_dec n (by unfold Dd.M; omega)]
    rfl
  rw [e1] at HU
  have HA := hideIt awake_any
  have q1 : (x.toList == x.toList) = true := by simp
  have n64 : (n : Int) < 18446744073709551616 := by omega
  clear hx e1
  go_enter Tryd.func3, Tryd.ntmps3
  go_wp2_with (first | (go_at_call 6; first | (refine (HD.out _ HT.out).mono ?_; rintro e w1 ⟨rfl, hb1⟩) | (refine (HD.out _ (tab_below (below2 hb1 (below2 hb2 hb3)) HT.out)).mono ?_; rintro e w4 ⟨rfl, hb4⟩)) | (go_at_call 5; refine (HU.out _ (tab_below hb1 HT.out) (errs_below hb1 HE.out)).mono ?_; rintro e w2 ⟨rfl, hb2⟩) | (go_at_call 7; refine (HA.out _).mono ?_; rintro e w3 ⟨rfl, hb3⟩) | (go_at_call 8; refine (HR.out _).mono ?_; rintro e w5 ⟨rfl, hb5⟩))
  go_ret
  exact ⟨rfl, by repeat (first | assumption | (refine below2 (by assumption) ?_))⟩
set_option maxHeartbeats 800000 in
set_option maxRecDepth 100000 in
theorem undec_law (s : ByteArray) (w : World) (hs : s.size ≤ maxLen) (ht : Tab w) (he : Errs w) :
    Calls Tryd.prog 4 #[.string s] w fun e w' => e = .returned (.bool true) ∧ Below w.heap.size w w' := by
  have HT := hideIt ht
  have HE := hideIt he
  clear ht he
  have hf := fewS_size s
  have HF := hideIt (fun w => flipC (few_any s w hs))
  obtain ⟨f, hfe⟩ : ∃ f, fewS s = f := ⟨_, rfl⟩
  rw [hfe] at hf HF
  have HU := hideIt (fun w h1 h2 => undec_any f w (by omega) h1 h2)
  have HR := hideIt (fun w => flipC (refundec_any f w (by omega)))
  obtain ⟨a, c, hte, ha⟩ : ∃ (a c : Nat), udV (Dd.und f.data.toList) = .tuple #[.int .u64 (a : Int), .int .i64 (c : Int)] ∧ c ≤ 6 := by
    cases Dd.und f.data.toList with
    | none => exact ⟨0, 6, rfl, by omega⟩
    | some t => exact ⟨t, 0, rfl, by omega⟩
  rw [hte] at HU HR
  have HA := hideIt awake_any
  clear hfe hte hs hf
  go_enter Tryd.func4, Tryd.ntmps4
  go_wp2_with (first | (go_at_call 9; refine (HF.out _).mono ?_; rintro e w0 ⟨rfl, rfl⟩) | (go_at_call 5; refine (HU.out _ HT.out HE.out).mono ?_; rintro e w2 ⟨rfl, hb2⟩) | (go_at_call 7; refine (HA.out _).mono ?_; rintro e w3 ⟨rfl, hb3⟩) | (go_at_call 10; refine (HR.out _).mono ?_; rintro e w4 ⟨rfl, rfl⟩))
  go_ret
  exact ⟨rfl, by repeat (first | assumption | (refine below2 (by assumption) ?_))⟩
end Go.Proofs.YtnldocaeaplghaaDoor
