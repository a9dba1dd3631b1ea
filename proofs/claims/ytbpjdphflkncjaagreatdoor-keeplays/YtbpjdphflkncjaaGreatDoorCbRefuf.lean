/- The document's reading of a frame, walked. -/
import Derived.Test.YtbpjdphflkncjaaGreatDoorCbUnframew
namespace Go.Proofs.YtbpjdphflkncjaaGreatDoor.Cb
open Go.RowKit
set_option maxHeartbeats 800000 in
set_option maxRecDepth 100000 in
theorem refunframe_any (s : ByteArray) (w : World) (hs : s.size ≤ 100000) :
    Calls Tryz.prog 24 #[.string s] w fun e w' => e = .returned (ufV (unframe s.data.toList)) ∧ Below w.heap.size w w' := by
  have HU := hideIt (fun w => flipC (refunnum_any s w))
  have hlt := unnum_lt s.data.toList
  obtain ⟨a, b, c, e1⟩ : ∃ a b c, Cd.unnum s.data.toList = (a, b, c) := ⟨_, _, _, rfl⟩
  rw [e1] at HU hlt
  have hlt' : a < 18446744073709551616 := hlt
  have a64 : (a : Int) < 18446744073709551616 := by omega
  have hway := way_of s a b c e1
  clear e1 hlt
  rcases hway with ⟨h, e⟩ | ⟨hc, h, e⟩ | ⟨hc, ha, hb, h, e⟩ | ⟨hc, ha, hb, h, hn, e⟩ | ⟨hc, ha, hb, h, hn, e⟩
  · obtain ⟨z, hz, hz2⟩ : ∃ z : Int, (c : Int) = z ∧ (z = 4 ∨ z = 6) := ⟨(c : Int), rfl, by omega⟩
    rw [unV_z a b c z hz] at HU
    have HE : Hid (ufV (unframe s.data.toList) = .tuple #[.string ⟨#[]⟩, .int .i64 0, .int .i64 z]) := hideIt (by rw [e, ← hz]; rfl)
    clear e hz h
    rcases hz2 with rfl | rfl
    all_goals
      go_enter Tryz.func24, Tryz.ntmps24
      go_wp2_with (first | (go_at_call 56; refine (HU.out _).mono ?_; rintro e w2 ⟨rfl, rfl⟩))
      go_ret3
      exact ⟨by rw [HE.out]; rfl, Below.refl _ _⟩
  · subst hc
    rw [unV_z a b 0 0 rfl] at HU
    have HE := hideIt e
    have h1 : (2097152 : Int) < (a : Int) := by omega
    clear e
    go_enter Tryz.func24, Tryz.ntmps24
    go_wp2_with (first | (go_at_call 56; refine (HU.out _).mono ?_; rintro e w2 ⟨rfl, rfl⟩))
    go_ret3
    exact ⟨by rw [HE.out]; rfl, Below.refl _ _⟩
  · subst hc
    rw [unV_z a b 0 0 rfl] at HU
    have HE := hideIt e
    have h1 : ¬ (2097152 : Int) < (a : Int) := by omega
    have h1d : decide ((2097152 : Int) < (a : Int)) = false := decide_eq_false h1
    have a3 : (a : Int) ≤ 2097152 := by omega
    have b3 : (b : Int) ≤ 100000 := by omega
    have h2 : (s.size : Int) - (b : Int) - 4 < (a : Int) := by omega
    have h2d : decide ((s.size : Int) - (b : Int) - 4 < (a : Int)) = true := decide_eq_true h2
    have s3 : (s.size : Int) ≤ 100000 := by omega
    clear e
    go_enter Tryz.func24, Tryz.ntmps24
    go_wp2_with (first | (go_at_call 56; refine (HU.out _).mono ?_; rintro e w2 ⟨rfl, rfl⟩))
    go_ret3
    exact ⟨by rw [HE.out]; rfl, Below.refl _ _⟩
  · subst hc
    rw [unV_z a b 0 0 rfl] at HU
    have HE := hideIt e
    obtain ⟨p, hp⟩ : ∃ p, b + a = p := ⟨_, rfl⟩
    obtain ⟨q, hq⟩ : ∃ q, p + 4 = q := ⟨_, rfl⟩
    rw [hp] at hn
    rw [hq] at hn
    obtain ⟨A, hA⟩ : ∃ A, s.extract p q = A := ⟨_, rfl⟩
    obtain ⟨B, hB⟩ : ∃ B, s.extract 0 p = B := ⟨_, rfl⟩
    rw [hA, hB] at hn
    obtain ⟨C, hC⟩ : ∃ C, bs (told B.data.toList) = C := ⟨_, rfl⟩
    have HC := hideIt (fun w => refcheck_any B w (by rw [← hB, ByteArray.size_extract]; omega))
    obtain ⟨x, hx⟩ : ∃ x, Crc.crc B.data.toList = x := ⟨_, rfl⟩
    rw [hx] at HC
    have HF := hideIt (reffour_any x)
    rw [told, hx] at hC
    rw [hC] at HF
    have n1 : (A.toList == C.toList) = false := by rw [ByteArray.toList_eq, ByteArray.toList_eq, ← hC, bs_list]; rw [told, hx] at hn; simpa using hn
    have n2 : (A.toList != C.toList) = true := by rw [bne, n1]; rfl
    have h1 : ¬ (2097152 : Int) < (a : Int) := by omega
    have h1d : decide ((2097152 : Int) < (a : Int)) = false := decide_eq_false h1
    have a3 : (a : Int) ≤ 2097152 := by omega
    have p1 : (b : Int) + (a : Int) = (p : Int) := by omega
    have p2 : (p : Int) + 4 = (q : Int) := by omega
    have p3 : (p : Int) ≤ (q : Int) := by omega
    have p4 : (q : Int) ≤ (s.size : Int) := by omega
    have p5 : (p : Int) ≤ (s.size : Int) := by omega
    have p6 : (0 : Int) ≤ (p : Int) := by omega
    have p9 : (p : Int) ≤ 100000 := by omega
    have g1 : ¬ s.size < q := by omega
    have g2 : q ≤ s.size := by omega
    have g3 : p ≤ q := by omega
    have g4 : p ≤ s.size := by omega
    have h5 : b ≤ p := by omega
    have h6 : (b : Int) ≤ (p : Int) := by omega
    have h7 : (0 : Int) ≤ (b : Int) := by omega
    have p10 : (q : Int) ≤ 100000 := by omega
    have b3 : (b : Int) ≤ 100000 := by omega
    have p7 : ¬ (s.size : Int) - (b : Int) - 4 < (a : Int) := by omega
    have p8 : decide ((s.size : Int) - (b : Int) - 4 < (a : Int)) = false := decide_eq_false p7
    have s3 : (s.size : Int) ≤ 100000 := by omega
    have wa := wrap_small' (a : Int) (by omega) (by omega)
    have wp := wrap_small' (p : Int) (by omega) (by omega)
    have wq := wrap_small' (q : Int) (by omega) (by omega)
    clear e hn hC hp hq hx
    go_enter Tryz.func24, Tryz.ntmps24
    go_wp2_with (first | (go_at_call 56; refine (HU.out _).mono ?_; rintro e w2 ⟨rfl, rfl⟩))
    go_region_held3 (fun w' => Below w.heap.size w w') (first | (exact (Below.refl _ _).drew) | assumption | (exact below2 (by assumption) hb1)) (first | (go_at_call 36; refine (HC.out _).mono ?_; rintro e w1 ⟨rfl, rfl⟩) | (go_at_call 35; refine (HF.out _).mono ?_; rintro e w1 ⟨rfl, hb1⟩))
    all_goals go_wp2
    all_goals go_ret3
    all_goals exact ⟨by rw [HE.out]; rfl, by assumption⟩
  · subst hc
    rw [unV_z a b 0 0 rfl] at HU
    obtain ⟨p, hp⟩ : ∃ p, b + a = p := ⟨_, rfl⟩
    obtain ⟨q, hq⟩ : ∃ q, p + 4 = q := ⟨_, rfl⟩
    rw [hp] at hn e
    rw [hq] at hn e
    obtain ⟨A, hA⟩ : ∃ A, s.extract p q = A := ⟨_, rfl⟩
    obtain ⟨B, hB⟩ : ∃ B, s.extract 0 p = B := ⟨_, rfl⟩
    rw [hA, hB] at hn
    obtain ⟨D, hD⟩ : ∃ D, s.extract b p = D := ⟨_, rfl⟩
    rw [hD] at e
    have HE := hideIt e
    obtain ⟨C, hC⟩ : ∃ C, bs (told B.data.toList) = C := ⟨_, rfl⟩
    have HC := hideIt (fun w => refcheck_any B w (by rw [← hB, ByteArray.size_extract]; omega))
    obtain ⟨x, hx⟩ : ∃ x, Crc.crc B.data.toList = x := ⟨_, rfl⟩
    rw [hx] at HC
    have HF := hideIt (reffour_any x)
    rw [told, hx] at hC
    rw [hC] at HF
    have n1 : (A.toList == C.toList) = true := by rw [ByteArray.toList_eq, ByteArray.toList_eq, ← hC, bs_list]; rw [told, hx] at hn; simpa using hn
    have n2 : (A.toList != C.toList) = false := by rw [bne, n1]; rfl
    have h1 : ¬ (2097152 : Int) < (a : Int) := by omega
    have h1d : decide ((2097152 : Int) < (a : Int)) = false := decide_eq_false h1
    have a3 : (a : Int) ≤ 2097152 := by omega
    have p1 : (b : Int) + (a : Int) = (p : Int) := by omega
    have p2 : (p : Int) + 4 = (q : Int) := by omega
    have p3 : (p : Int) ≤ (q : Int) := by omega
    have p4 : (q : Int) ≤ (s.size : Int) := by omega
    have p5 : (p : Int) ≤ (s.size : Int) := by omega
    have p6 : (0 : Int) ≤ (p : Int) := by omega
    have g5 : b ≤ p := by omega
    have g6 : (b : Int) ≤ (p : Int) := by omega
    have p9 : (p : Int) ≤ 100000 := by omega
    have g1 : ¬ s.size < q := by omega
    have g2 : q ≤ s.size := by omega
    have g3 : p ≤ q := by omega
    have g4 : p ≤ s.size := by omega
    have p10 : (q : Int) ≤ 100000 := by omega
    have b3 : (b : Int) ≤ 100000 := by omega
    have p7 : ¬ (s.size : Int) - (b : Int) - 4 < (a : Int) := by omega
    have p8 : decide ((s.size : Int) - (b : Int) - 4 < (a : Int)) = false := decide_eq_false p7
    have s3 : (s.size : Int) ≤ 100000 := by omega
    have wa := wrap_small' (a : Int) (by omega) (by omega)
    have wp := wrap_small' (p : Int) (by omega) (by omega)
    have wq := wrap_small' (q : Int) (by omega) (by omega)
    clear e hn hC hp hq hx
    go_enter Tryz.func24, Tryz.ntmps24
    go_wp2_with (first | (go_at_call 56; refine (HU.out _).mono ?_; rintro e w2 ⟨rfl, rfl⟩))
    go_region_held3 (fun w' => Below w.heap.size w w') (first | (exact (Below.refl _ _).drew) | assumption | (exact below2 (by assumption) hb1)) (first | (go_at_call 36; refine (HC.out _).mono ?_; rintro e w1 ⟨rfl, rfl⟩) | (go_at_call 35; refine (HF.out _).mono ?_; rintro e w1 ⟨rfl, hb1⟩))
    all_goals go_wp2
    all_goals go_ret3
    all_goals exact ⟨by rw [HE.out, ufV]; simp only [bs_data]; rfl, by assumption⟩
end Go.Proofs.YtbpjdphflkncjaaGreatDoor.Cb
