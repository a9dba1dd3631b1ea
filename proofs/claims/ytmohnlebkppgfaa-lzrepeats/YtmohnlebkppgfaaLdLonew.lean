/- Whether each four bytes of a text that goes round stand once, walked. -/
import Derived.Test.YtmohnlebkppgfaaLdRep
import Derived.Test.YtmohnlebkppgfaaLdLawo
namespace Go.Proofs.Ytmohnlebkppgfaa.Ld
open Cb
open Go.RowKit
set_option maxHeartbeats 800000 in
set_option maxRecDepth 100000 in
theorem lone_any (t : ByteArray) (B : Bool) (w : World) (ht : t.size ≤ 60) (hB : B = true ↔ Lz.Lone t.data.toList) :
    Calls Try.prog 14 #[.string t] w fun e w' => e = .returned (.bool B) ∧ Below w.heap.size w w' := by
  obtain ⟨L, hL⟩ : ∃ L, t.data.toList = L := ⟨_, rfl⟩
  rw [hL] at hB
  obtain ⟨m, hm⟩ : ∃ m, t.size = m := ⟨_, rfl⟩
  have hlen : L.length = m := by rw [← hL, str_len, hm]
  have mS : (t.size : Int) = (m : Int) := by omega
  obtain ⟨U, hU⟩ : ∃ U, t ++ t = U := ⟨_, rfl⟩
  have us : U.size = m + m := by rw [← hU, ByteArray.size_append, hm]
  have HUD : Hid (U.data.toList = L ++ L) := hideIt (by rw [← hU, cat_data, hL])
  have HFO := hideIt (fun x => four_of U x)
  rw [HUD.out] at HFO
  have t1 : ¬ 9223372036854775807 < t.size + t.size := by omega
  obtain ⟨u, hu⟩ : ∃ u, m + m = u := ⟨_, rfl⟩
  rw [hu] at us
  have uS : (U.size : Int) = (u : Int) := by rw [us]
  have HUS := hideIt us
  have HB := hideIt hB
  have HLM := hideIt hlen
  have HUM := hideIt hu
  have mI : (m : Int) ≤ 60 := by omega
  have uI : (u : Int) ≤ 120 := by omega
  clear hB hlen hL us hm hu
  go_enter Try.func14, Try.ntmps14
  go_wp2
  go_loopw [4] (fun v wr => ∃ i : Nat, i ≤ m ∧ v = .int .i64 i ∧ (∀ a k, k < a → a < i → Lz.four (L ++ L) a ≠ Lz.four (L ++ L) k) ∧ (4 ≤ m ∨ i = 0) ∧ Below w.heap.size w wr) (fun v _ => m - (intOf v).toNat)
  case atStart => exact ⟨0, by omega, rfl, fun a k _ h => by omega, Or.inr rfl, Below.refl _ _⟩
  case round =>
    obtain ⟨i, hi, rfl, hall, h40, hr⟩ := hrel
    have HR := hideIt hr
    have HALL := hideIt hall
    clear hr hall
    by_cases h4 : 4 ≤ m
    · have h4d : decide ((4 : Int) ≤ (m : Int)) = true := decide_eq_true (by omega)
      have h4i : (4 : Int) ≤ (m : Int) := by omega
      by_cases hlt : i < m
      · have hid : decide ((i : Int) < (m : Int)) = true := decide_eq_true (by omega)
        go_wp2
        go_loopw [5] (fun v wr => ∃ k : Nat, k ≤ i ∧ v = .int .i64 k ∧ (∀ z, z < k → Lz.four (L ++ L) i ≠ Lz.four (L ++ L) z) ∧ Below w.heap.size w wr) (fun v _ => i - (intOf v).toNat)
        case atStart => exact ⟨0, by omega, rfl, fun z h => by omega, HR.out⟩
        case round =>
          obtain ⟨k, hk, rfl, hall, hr⟩ := hrel
          have HR2 := hideIt (fun q => hr.trans (c := wr.drewN q) ⟨rfl, rfl, rfl, Nat.le_refl _, fun _ _ => rfl⟩)
          have HR0 := hideIt hr
          have HAL := hideIt hall
          clear hr hall
          by_cases hki : k < i
          · have hid2 : decide ((k : Int) < (i : Int)) = true := decide_eq_true (by omega)
            obtain ⟨i4, hi4⟩ : ∃ x, i + 4 = x := ⟨_, rfl⟩
            obtain ⟨k4, hk4⟩ : ∃ x, k + 4 = x := ⟨_, rfl⟩
            have a1 : (i : Int) + 4 = (i4 : Int) := by omega
            have a2 : (k : Int) + 4 = (k4 : Int) := by omega
            have a3 : (i4 : Int) ≤ (u : Int) := by have := HUM.out; omega
            have a4 : (k4 : Int) ≤ (u : Int) := by have := HUM.out; omega
            have a5 : (i : Int) ≤ (i4 : Int) := by omega
            have a6 : (k : Int) ≤ (k4 : Int) := by omega
            have e1 := HFO.out i
            have e2 := HFO.out k
            rw [hi4] at e1
            rw [hk4] at e2
            obtain ⟨F, hF⟩ : ∃ F, U.extract i i4 = F := ⟨_, rfl⟩
            obtain ⟨G, hG⟩ : ∃ F, U.extract k k4 = F := ⟨_, rfl⟩
            rw [hF] at e1
            rw [hG] at e2
            by_cases hf : Lz.four (L ++ L) i = Lz.four (L ++ L) k
            · have q1 : (F.toList == G.toList) = true := by rw [ByteArray.toList_eq, ByteArray.toList_eq, e1, e2, hf]; simp
              have HE : Hid (B = false) := by
                refine hideIt ?_
                cases hBB : B with
                | false => rfl
                | true => exact absurd hf ((HB.out.1 hBB).2 i k hki (by rw [HLM.out]; exact hlt))
              clear e1 e2 hf hi4 hk4
              go_wp2
              go_quiet (fail)
              go_wp2
              go_ret
              exact ⟨by rw [HE.out]; rfl, HR2.out _⟩
            · have q1 : (F.toList == G.toList) = false := by rw [ByteArray.toList_eq, ByteArray.toList_eq, e1, e2]; exact beq_eq_false_iff_ne.2 hf
              have q2 : ¬ F.toList = G.toList := beq_eq_false_iff_ne.1 q1
              have HE : Hid (∀ z, z < k + 1 → Lz.four (L ++ L) i ≠ Lz.four (L ++ L) z) := by
                refine hideIt (fun z hz => ?_)
                by_cases e : z = k
                · rw [e]; exact hf
                · exact HAL.out z (by omega)
              clear e1 e2 hf hi4 hk4
              go_wp2
              go_quiet (fail)
              go_wp2
              go_roundw
              case rel => exact ⟨k + 1, by omega, by go_num, HE.out, HR2.out _⟩
              case measure => simp [intOf]; omega
          · have hid2 : decide ((k : Int) < (i : Int)) = false := decide_eq_false (by omega)
            obtain rfl : k = i := by omega
            have HE : Hid (∀ a z, z < a → a < k + 1 → Lz.four (L ++ L) a ≠ Lz.four (L ++ L) z) := by
              refine hideIt (fun a z h1 h2 => ?_)
              by_cases e : a = k
              · rw [e]; rw [e] at h1; exact HAL.out z h1
              · exact HALL.out a z h1 (by omega)
            go_wp2
            go_roundw
            case rel => exact ⟨k + 1, by omega, by go_num, HE.out, Or.inl h4, HR0.out⟩
            case measure => simp [intOf]; omega
      · have hid : decide ((i : Int) < (m : Int)) = false := decide_eq_false (by omega)
        obtain rfl : i = m := by omega
        have HE : Hid (B = true) := hideIt (HB.out.2 ⟨by rw [HLM.out]; exact h4, fun a k h1 h2 => HALL.out a k h1 (by rw [HLM.out] at h2; exact h2)⟩)
        go_wp2
        go_ret
        exact ⟨by rw [HE.out]; rfl, HR.out⟩
    · have h4d : decide ((4 : Int) ≤ (m : Int)) = false := decide_eq_false (by omega)
      have HE : Hid (B = false) := by
        refine hideIt ?_
        cases hBB : B with
        | false => rfl
        | true => exact absurd (HB.out.1 hBB).1 (by rw [HLM.out]; exact h4)
      obtain rfl : i = 0 := by omega
      by_cases hlt : 0 < m
      · have hid : decide ((0 : Int) < (m : Int)) = true := decide_eq_true (by omega)
        go_wp2
        go_ret
        exact ⟨by rw [HE.out]; rfl, HR.out⟩
      · have hid : decide ((0 : Int) < (m : Int)) = false := decide_eq_false (by omega)
        go_wp2
        go_ret
        exact ⟨by rw [HE.out]; rfl, HR.out⟩
end Go.Proofs.Ytmohnlebkppgfaa.Ld
