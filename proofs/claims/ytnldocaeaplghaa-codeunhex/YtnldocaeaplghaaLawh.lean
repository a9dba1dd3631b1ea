/- The laws of digits in base 16, walked. -/
import Derived.Test.YtnldocaeaplghaaAwake
import Derived.Test.YtnldocaeaplghaaRefu
namespace Go.Proofs.Ytnldocaeaplghaa
open Go.RowKit
set_option maxHeartbeats 800000 in
set_option maxRecDepth 100000 in
theorem hex_law (s : ByteArray) (w : World) (hs : s.size ≤ maxLen) :
    Calls Try.prog 3 #[.string s] w fun e w' => e = .returned (.bool true) ∧ Below w.heap.size w w' := by
  have hf := fewS_size s
  have HF := hideIt (fun w => few_any s w hs)
  obtain ⟨f, hfe⟩ : ∃ f, fewS s = f := ⟨_, rfl⟩
  rw [hfe] at hf HF
  obtain ⟨x, hx⟩ : ∃ x, bs (Cd.hexL f.data.toList) = x := ⟨_, rfl⟩
  have HX := hideIt (fun w => hex_any f w (by omega))
  have HR := hideIt (fun w => refhex_any f w (by omega))
  rw [hx] at HX HR
  have HU := hideIt (fun w => unhex_any x w (by rw [← hx, bs_size, Cd.hexL_len, str_len]; omega))
  have e1 : unhexV (Cd.unhexL x.data.toList) = .tuple #[.string f, .int .i64 0] := by
    rw [← hx, bs_list, Cd.unhex_hex, unhexV]
    simp only [bs_data]
  rw [e1] at HU
  have HA := hideIt awake_any
  have q1 : (x.toList == x.toList) = true := by simp
  have q2 : (f.toList == f.toList) = true := by simp
  clear hx hfe e1 hs hf
  go_enter Try.func3, Try.ntmps3
  go_wp2_with (first | (go_at_call 9; refine (HF.out _).mono ?_; rintro e w0 ⟨rfl, rfl⟩) | (go_at_call 8; refine (HX.out _).mono ?_; rintro e w1 ⟨rfl, hb1⟩) | (go_at_call 7; refine (HU.out _).mono ?_; rintro e w2 ⟨rfl, hb2⟩) | (go_at_call 10; refine (HA.out _).mono ?_; rintro e w3 ⟨rfl, hb3⟩) | (go_at_call 11; refine (HR.out _).mono ?_; rintro e w4 ⟨rfl, hb4⟩))
  go_ret
  exact ⟨rfl, by repeat (first | assumption | (refine below2 (by assumption) ?_))⟩
set_option maxHeartbeats 800000 in
set_option maxRecDepth 100000 in
theorem unhex_law (s : ByteArray) (w : World) (hs : s.size ≤ maxLen) :
    Calls Try.prog 4 #[.string s] w fun e w' => e = .returned (.bool true) ∧ Below w.heap.size w w' := by
  have hf := fewS_size s
  have HF := hideIt (fun w => few_any s w hs)
  obtain ⟨f, hfe⟩ : ∃ f, fewS s = f := ⟨_, rfl⟩
  rw [hfe] at hf HF
  obtain ⟨t, e, hte⟩ : ∃ (t : ByteArray) (e : Nat), unhexV (Cd.unhexL f.data.toList) = .tuple #[.string t, .int .i64 (e : Int)] := by
    cases Cd.unhexL f.data.toList with
    | none => exact ⟨_, 6, rfl⟩
    | some t => exact ⟨_, 0, rfl⟩
  have HU := hideIt (fun w => unhex_any f w (by omega))
  have HR := hideIt (fun w => refunhex_any f w (by omega))
  rw [hte] at HU HR
  have HA := hideIt awake_any
  have q2 : (t.toList == t.toList) = true := by simp
  clear hfe hte hs hf
  go_enter Try.func4, Try.ntmps4
  go_wp2_with (first | (go_at_call 9; refine (HF.out _).mono ?_; rintro e w0 ⟨rfl, rfl⟩) | (go_at_call 7; refine (HU.out _).mono ?_; rintro e w2 ⟨rfl, hb2⟩) | (go_at_call 10; refine (HA.out _).mono ?_; rintro e w3 ⟨rfl, hb3⟩) | (go_at_call 12; refine (HR.out _).mono ?_; rintro e w4 ⟨rfl, hb4⟩))
  go_ret
  exact ⟨rfl, by repeat (first | assumption | (refine below2 (by assumption) ?_))⟩
end Go.Proofs.Ytnldocaeaplghaa
