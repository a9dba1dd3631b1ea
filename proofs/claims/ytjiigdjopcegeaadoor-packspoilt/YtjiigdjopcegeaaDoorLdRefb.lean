/- The document's pressing, walked: how far back, and the whole. -/
import Derived.Test.YtjiigdjopcegeaaDoorLdSpread
namespace Go.Proofs.YtjiigdjopcegeaaDoor.Ld
open Cb
open Go.RowKit
theorem look_far (s : List UInt8) (i : Nat) : ∀ K, K ≤ i → Lz.look s i K ≠ 0 → i + 1 ≤ Lz.look s i K + K
  | 0, _, h => by simp [Lz.look] at h
  | K + 1, hK, h => by
    rw [Lz.look] at h ⊢
    by_cases e : Lz.four s K = Lz.four s i
    · rw [if_pos e]; omega
    · rw [if_neg e] at h ⊢
      have := look_far s i K (by omega) h
      omega
set_option maxHeartbeats 800000 in
set_option maxRecDepth 100000 in
theorem refback_any (s : ByteArray) (a : Nat) (w : World) (ha : a ≤ s.size) (hs : s.size ≤ 1048576) :
    Calls Tryd.prog 52 #[.string s, .int .i64 (a : Int)] w fun e w' => e = .returned (.int .i64 ((Lz.back s.data.toList a : Nat) : Int)) ∧ Below w.heap.size w w' := by
  obtain ⟨L, hL⟩ : ∃ L, s.data.toList = L := ⟨_, rfl⟩
  have hlen : L.length = s.size := by rw [← hL, str_len]
  rw [hL]
  obtain ⟨a4, ha4⟩ : ∃ a4, a + 4 = a4 := ⟨_, rfl⟩
  have a1 : (a : Int) + 4 = (a4 : Int) := by omega
  have aI : (a4 : Int) ≤ 1048580 := by omega
  by_cases hsh : s.size < a4
  · have h1 : (s.size : Int) < (a4 : Int) := by omega
    have e : Lz.back L a = 0 := by rw [Lz.back, if_pos (by omega)]
    rw [e]
    clear e hL hlen ha4
    go_enter Tryd.func52, Tryd.ntmps52
    go_wp2
    go_ret
    exact ⟨rfl, Below.refl _ _⟩
  · have h1 : ¬ (s.size : Int) < (a4 : Int) := by omega
    have h2 : (a4 : Int) ≤ (s.size : Int) := by omega
    have HBK : Hid (Lz.back L a = if Lz.look L a a ≤ 32768 then Lz.look L a a else 0) := hideIt (by rw [Lz.back, if_neg (by omega)])
    have HFO := hideIt (fun x => four_of s x)
    rw [hL] at HFO
    have HA4 := hideIt ha4
    have a2 : (a : Int) ≤ (a4 : Int) := by omega
    clear hL hlen ha4
    go_enter Tryd.func52, Tryd.ntmps52
    go_wp2
    go_loopw [5] (fun t wr => ∃ (K : Nat) (z : Int), K ≤ a ∧ z + 1 = (K : Int) ∧ t = .int .i64 z ∧ Lz.look L a a = Lz.look L a K ∧ Below w.heap.size w wr) (fun t _ => (intOf t + 1).toNat)
    case atStart => exact ⟨a, (a : Int) - 1, Nat.le_refl _, by omega, rfl, rfl, Below.refl _ _⟩
    case round =>
      obtain ⟨K, z, hK, hz, rfl, hlk, hr⟩ := hrel
      have HR := hideIt (fun q => hr.trans (c := wr.drewN q) ⟨rfl, rfl, rfl, Nat.le_refl _, fun _ _ => rfl⟩)
      have HR0 := hideIt hr
      clear hr
      cases K with
      | zero =>
        have hz1 : z = -1 := by omega
        subst hz1
        have HE : Hid (Lz.back L a = 0) := hideIt (by rw [HBK.out, hlk]; simp [Lz.look])
        clear hlk
        go_wp2
        go_ret
        exact ⟨by rw [HE.out]; rfl, HR0.out⟩
      | succ k =>
        obtain rfl : z = (k : Int) := by omega
        obtain ⟨d, hd⟩ : ∃ d, a - k = d := ⟨_, rfl⟩
        have d1 : (a : Int) - (k : Int) = (d : Int) := by omega
        have k0 : decide ((0 : Int) ≤ (k : Int)) = true := decide_eq_true (by omega)
        have dI : (d : Int) ≤ 1048576 := by omega
        by_cases hfar : d ≤ 32768
        · have f1 : decide ((d : Int) ≤ 32768) = true := decide_eq_true (by omega)
          obtain ⟨k4, hk4⟩ : ∃ k4, k + 4 = k4 := ⟨_, rfl⟩
          have k1 : (k : Int) + 4 = (k4 : Int) := by omega
          have k2 : (k4 : Int) ≤ (s.size : Int) := by have := HA4.out; omega
          have k3 : (k : Int) ≤ (k4 : Int) := by omega
          have kI : (k4 : Int) ≤ 1048580 := by omega
          have e1 := HFO.out k
          have e2 := HFO.out a
          rw [hk4] at e1
          rw [HA4.out] at e2
          obtain ⟨F, hF⟩ : ∃ F, s.extract k k4 = F := ⟨_, rfl⟩
          obtain ⟨G, hG⟩ : ∃ G, s.extract a a4 = G := ⟨_, rfl⟩
          rw [hF] at e1
          rw [hG] at e2
          by_cases hf : Lz.four L k = Lz.four L a
          · have q1 : (F.toList == G.toList) = true := by rw [ByteArray.toList_eq, ByteArray.toList_eq, e1, e2, hf]; simp
            have HE : Hid (Lz.back L a = d) := hideIt (by rw [HBK.out, hlk, Lz.look, if_pos hf, hd, if_pos hfar])
            clear hlk hf e1 e2 hd hk4
            go_wp2
            go_quiet (fail)
            go_wp2
            go_ret
            exact ⟨by rw [HE.out]; rfl, HR.out _⟩
          · have q1 : (F.toList == G.toList) = false := by rw [ByteArray.toList_eq, ByteArray.toList_eq, e1, e2]; exact beq_eq_false_iff_ne.2 hf
            have q2 : ¬ F.toList = G.toList := beq_eq_false_iff_ne.1 q1
            have HE : Hid (Lz.look L a a = Lz.look L a k) := hideIt (by rw [hlk, Lz.look, if_neg hf])
            clear hlk hf e1 e2 hd hk4
            go_wp2
            go_quiet (fail)
            go_wp2
            go_roundw
            case rel => exact ⟨k, (k : Int) - 1, by omega, by omega, rfl, HE.out, HR.out _⟩
            case measure => simp [intOf]
        · have f1 : decide ((d : Int) ≤ 32768) = false := decide_eq_false (by omega)
          have HE : Hid (Lz.back L a = 0) := by
            refine hideIt ?_
            rw [HBK.out, hlk]
            by_cases h0 : Lz.look L a (k + 1) = 0
            · rw [h0]; simp
            · have := look_far L a (k + 1) hK h0
              rw [if_neg (by omega)]
          clear hlk hd
          go_wp2
          go_ret
          exact ⟨by rw [HE.out]; rfl, HR0.out⟩
end Go.Proofs.YtjiigdjopcegeaaDoor.Ld
