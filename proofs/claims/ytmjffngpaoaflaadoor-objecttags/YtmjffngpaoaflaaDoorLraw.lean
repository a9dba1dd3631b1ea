/- The law ObjectRaws, walked. -/
import Derived.Test.YtmjffngpaoaflaaDoorOr
import Derived.Test.YtmjffngpaoaflaaDoorOq
namespace Go.Proofs.YtmjffngpaoaflaaDoor
namespace Ob
open Go.RowKit Go.Shelf
theorem flipC {P : Program} {f : Nat} {a : Array Value} {w : World} {v : Value} (h : Calls P f a w fun e w' => e = .returned v ∧ w' = w) : Calls P f a w fun e w' => e = .returned v ∧ w = w' := h.mono fun _ _ h => ⟨h.1, h.2.symm⟩
theorem beq_same (s : ByteArray) : (s.toList == s.toList) = true := by simp
set_option maxHeartbeats 800000 in
set_option maxRecDepth 100000 in
theorem raws_law (k : Int) (b : ByteArray) (w : World) (hk : Ok w) (hb : b.size ≤ maxLen) :
    Calls Tryd.prog 3 #[.int .i64 k, .string b] w fun e w' => e = .returned (.bool true) ∧ Below w.heap.size w w' := by
  have HOK := hideIt hk
  have hf := fewS_size b
  have HF := hideIt (fun w => flipC (few_any b w hb))
  obtain ⟨f, hfe⟩ : ∃ f, fewS b = f := ⟨_, rfl⟩
  rw [hfe] at HF hf
  have HR := hideIt (fun w h => raw_any k f w (by omega) h)
  have HA := hideIt awake_any
  have HRR : Hid (rawR k f.data.toList = if 1 ≤ k ∧ k ≤ 4 then (if 262144 < f.data.toList.length then ([], 3) else (rawL k f.data.toList, 0)) else ([], 70)) := rfl
  clear hk hb hfe
  by_cases h : 1 ≤ k ∧ k ≤ 4
  · have k1 : ¬ k < 1 := by omega
    have k2 : ¬ 4 < k := by omega
    have hl : f.data.toList.length = f.size := str_len f
    rw [if_pos h, if_neg (by omega)] at HRR
    rw [HRR.out] at HR
    simp only at HR
    have hrl := raw_len k f.data.toList (by omega)
    have HO := hideIt (fun w h => open_any (rawL k f.data.toList) (by omega) w h)
    rw [opn_raw k h _ (by omega), if_neg (by omega), opV] at HO
    simp only at HO
    rw [bs_data] at HO
    have HQ := hideIt (fun w => refraw_any k h f w (by omega))
    have hss : (bs (rawL k f.data.toList)).size < 100000000 := by rw [bs_size]; omega
    have HI := hideIt (fun w h => id_any (bs (rawL k f.data.toList)) w hss h)
    have HJ := hideIt (fun w => refid_any (bs (rawL k f.data.toList)) w hss)
    obtain ⟨S, hS⟩ : ∃ S, bs (rawL k f.data.toList) = S := ⟨_, rfl⟩
    obtain ⟨I, hI⟩ : ∃ I, Sa.Sha.sha S.data.toList = I := ⟨_, rfl⟩
    rw [hS] at HR HO HQ HI HJ
    rw [hI] at HI HJ
    have e1 := beq_same S
    have e2 := beq_same I
    have e3 := beq_same f
    clear hS hI hss hrl HRR hl
    go_enter Tryd.func3, Tryd.ntmps3
    go_wp2_with (first
      | (go_at_call 6; refine (HF.out _).mono ?_; rintro e wf ⟨rfl, rfl⟩)
      | (go_at_call 5; refine (HR.out _ HOK.out).mono ?_; rintro e w1 ⟨rfl, hb1⟩; have HB1 := hideIt hb1)
      | (go_at_call 8; refine (HO.out _ (HOK.out.below HB1.out)).mono ?_; rintro e w2 ⟨rfl, hb2⟩; have HB2 := hideIt (below2 HB1.out hb2))
      | (go_at_call 7; refine (HA.out _ (HOK.out.below HB2.out)).mono ?_; rintro e w3 ⟨rfl, hb3⟩; have HB3 := hideIt (below2 HB2.out hb3))
      | (go_at_call 9; refine (HQ.out _).mono ?_; rintro e w4 ⟨rfl, hb4⟩; have HB4 := hideIt (below2 HB3.out hb4))
      | (go_at_call 10; refine (HI.out _ (HOK.out.below HB4.out)).mono ?_; rintro e w5 ⟨rfl, hb5⟩; have HB5 := hideIt (below2 HB4.out hb5))
      | (go_at_call 11; refine (HJ.out _).mono ?_; rintro e w6 ⟨rfl, hb6⟩; have HB6 := hideIt (below2 HB5.out hb6)))
    go_ret
    exact ⟨rfl, HB6.out⟩
  · rw [if_neg h] at HRR
    rw [HRR.out] at HR
    have HR2 : Hid (∀ w, Ok w → Calls Tryd.prog 5 #[.int .i64 k, .string f] w fun e w' => e = .returned (.tuple #[.string ⟨#[]⟩, .int .i64 70]) ∧ Below w.heap.size w w') := HR
    clear HR HRR
    by_cases k1 : k < 1
    · go_enter Tryd.func3, Tryd.ntmps3
      go_wp2_with (first
        | (go_at_call 6; refine (HF.out _).mono ?_; rintro e wf ⟨rfl, rfl⟩)
        | (go_at_call 5; refine (HR2.out _ HOK.out).mono ?_; rintro e w1 ⟨rfl, hb1⟩; have HB1 := hideIt hb1)
        | (go_at_call 7; refine (HA.out _ (HOK.out.below HB1.out)).mono ?_; rintro e w3 ⟨rfl, hb3⟩; have HB3 := hideIt (below2 HB1.out hb3)))
      go_ret
      exact ⟨rfl, HB3.out⟩
    · have k2 : 4 < k := by omega
      go_enter Tryd.func3, Tryd.ntmps3
      go_wp2_with (first
        | (go_at_call 6; refine (HF.out _).mono ?_; rintro e wf ⟨rfl, rfl⟩)
        | (go_at_call 5; refine (HR2.out _ HOK.out).mono ?_; rintro e w1 ⟨rfl, hb1⟩; have HB1 := hideIt hb1)
        | (go_at_call 7; refine (HA.out _ (HOK.out.below HB1.out)).mono ?_; rintro e w3 ⟨rfl, hb3⟩; have HB3 := hideIt (below2 HB1.out hb3)))
      go_ret
      exact ⟨rfl, HB3.out⟩
end Ob
end Go.Proofs.YtmjffngpaoaflaaDoor
