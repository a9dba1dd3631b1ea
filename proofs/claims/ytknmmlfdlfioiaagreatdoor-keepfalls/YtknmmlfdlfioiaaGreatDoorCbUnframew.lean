/- The text of the frame at the beginning of bytes, walked: the program's own. -/
import Derived.Test.YtknmmlfdlfioiaaGreatDoorCbFramew
namespace Go.Proofs.YtknmmlfdlfioiaaGreatDoor.Cb
open Go.RowKit
def unframe (l : List UInt8) : List UInt8 × Nat × Nat :=
  if (Cd.unnum l).2.2 ≠ 0 then ([], 0, (Cd.unnum l).2.2)
  else if 2097152 < (Cd.unnum l).1 then ([], 0, 3)
  else if l.length < (Cd.unnum l).2.1 + (Cd.unnum l).1 + 4 then ([], 0, 4)
  else if (l.drop ((Cd.unnum l).2.1 + (Cd.unnum l).1)).take 4 ≠ told (l.take ((Cd.unnum l).2.1 + (Cd.unnum l).1)) then ([], 0, 6)
  else ((l.drop (Cd.unnum l).2.1).take (Cd.unnum l).1, (Cd.unnum l).2.1 + (Cd.unnum l).1 + 4, 0)
def ufV (r : List UInt8 × Nat × Nat) : Value := .tuple #[.string (bs r.1), .int .i64 (r.2.1 : Int), .int .i64 (r.2.2 : Int)]
theorem unL_err : ∀ (k i c : Nat) (l : List UInt8), (Cd.unL k i c l).2.2 = 0 ∨ (Cd.unL k i c l).2.2 = 4 ∨ (Cd.unL k i c l).2.2 = 6
  | 0, _, _, _ => by simp [Cd.unL]
  | _ + 1, _, _, [] => by simp [Cd.unL]
  | k + 1, i, c, b :: t => by
    rw [Cd.unL]
    split
    · simp
    · exact unL_err k (i + 1) _ t
theorem unL_lt : ∀ (k i c : Nat) (l : List UInt8), k + i ≤ 9 → 127 * c + 128 ≤ 128 * 128 ^ i → (Cd.unL k i c l).1 < 18446744073709551616
  | 0, _, _, _, _, _ => by simp [Cd.unL]
  | _ + 1, _, _, [], _, _ => by simp [Cd.unL]
  | k + 1, i, c, b :: t, hk, hc => by
    have h1 := pow_bound i c (by omega) hc
    have hb := b.toNat_lt
    rw [Cd.unL]
    split
    · simp only; omega
    · exact unL_lt k (i + 1) _ t (by omega) (pow_next i c _ (by omega) hc)
theorem unnum_lt (l : List UInt8) : (Cd.unnum l).1 < 18446744073709551616 := unL_lt 9 0 0 l (by omega) (by simp)
theorem unV_z (a b c : Nat) (z : Int) (h : (c : Int) = z) : unV (a, b, c) = .tuple #[.int .u64 (a : Int), .int .i64 (b : Int), .int .i64 z] := by rw [← h]; rfl
theorem data_mid (s : ByteArray) (i j : Nat) : (s.extract i j).data.toList = (s.data.toList.drop i).take (j - i) := by
  rw [ByteArray.data_extract, Array.toList_extract, List.extract_eq_take_drop]
/-- The five ways of a frame that is read. -/
theorem way_of (s : ByteArray) (a b c : Nat) (h : Cd.unnum s.data.toList = (a, b, c)) :
    ((c = 4 ∨ c = 6) ∧ unframe s.data.toList = ([], 0, c)) ∨ (c = 0 ∧ 2097152 < a ∧ unframe s.data.toList = ([], 0, 3)) ∨ (c = 0 ∧ a ≤ 2097152 ∧ b ≤ s.size ∧ s.size < b + a + 4 ∧ unframe s.data.toList = ([], 0, 4)) ∨
    (c = 0 ∧ a ≤ 2097152 ∧ b ≤ s.size ∧ b + a + 4 ≤ s.size ∧ (s.extract (b + a) (b + a + 4)).data.toList ≠ told (s.extract 0 (b + a)).data.toList ∧ unframe s.data.toList = ([], 0, 6)) ∨
    (c = 0 ∧ a ≤ 2097152 ∧ b ≤ s.size ∧ b + a + 4 ≤ s.size ∧ (s.extract (b + a) (b + a + 4)).data.toList = told (s.extract 0 (b + a)).data.toList ∧ unframe s.data.toList = ((s.extract b (b + a)).data.toList, b + a + 4, 0)) := by
  have herr := unL_err 9 0 0 s.data.toList
  rw [← Cd.unnum, h] at herr
  have herr' : c = 0 ∨ c = 4 ∨ c = 6 := herr
  by_cases hc : c = 0
  · subst hc
    have hform := (Cd.unnum_form h).2
    rw [str_len] at hform
    by_cases ha : 2097152 < a
    · exact Or.inr (Or.inl ⟨rfl, ha, by simp only [unframe, h, ne_eq, not_true, if_false, ha, if_true]⟩)
    · by_cases hl : s.size < b + a + 4
      · exact Or.inr (Or.inr (Or.inl ⟨rfl, by omega, hform, hl, by simp only [unframe, h, ne_eq, not_true, if_false, ha, str_len, hl, if_true]⟩))
      · have e1 : (s.extract (b + a) (b + a + 4)).data.toList = (s.data.toList.drop (b + a)).take 4 := by rw [data_mid, show b + a + 4 - (b + a) = 4 by omega]
        have e2 : (s.extract 0 (b + a)).data.toList = s.data.toList.take (b + a) := data_first s (b + a)
        have e3 : (s.extract b (b + a)).data.toList = (s.data.toList.drop b).take a := by rw [data_mid, show b + a - b = a by omega]
        by_cases hq : (s.data.toList.drop (b + a)).take 4 = told (s.data.toList.take (b + a))
        · exact Or.inr (Or.inr (Or.inr (Or.inr ⟨rfl, by omega, hform, by omega, by rw [e1, e2]; exact hq, by simp only [unframe, h, ne_eq, not_true, if_false, ha, str_len, hl, hq, e3]⟩)))
        · exact Or.inr (Or.inr (Or.inr (Or.inl ⟨rfl, by omega, hform, by omega, by rw [e1, e2]; exact hq, by simp only [unframe, h, ne_eq, not_true, if_false, ha, str_len, hl, hq, not_false_eq_true, if_true]⟩)))
  · exact Or.inl ⟨by omega, by simp only [unframe, h, ne_eq, hc, not_false_eq_true, if_true]⟩
set_option maxHeartbeats 800000 in
set_option maxRecDepth 100000 in
theorem unframe_any (s : ByteArray) (w : World) (hK : KAt w) (hs : s.size ≤ 100000) :
    Calls Tryz.prog 56 #[.string s] w fun e w' => e = .returned (ufV (unframe s.data.toList)) ∧ Below w.heap.size w w' := by
  have HK := hideIt hK
  clear hK
  have HU := hideIt (fun w => flipC (unnum_any s w (by omega)))
  have hlt := unnum_lt s.data.toList
  obtain ⟨a, b, c, e1⟩ : ∃ a b c, Cd.unnum s.data.toList = (a, b, c) := ⟨_, _, _, rfl⟩
  rw [e1] at HU hlt
  have hlt' : a < 18446744073709551616 := hlt
  have a64 : (a : Int) < 18446744073709551616 := by omega
  have hway := way_of s a b c e1
  clear e1 hlt
  rcases hway with ⟨h, e⟩ | ⟨hc, h, e⟩ | ⟨hc, ha, hb, h, e⟩ | ⟨hc, ha, hb, h, hn, e⟩ | ⟨hc, ha, hb, h, hn, e⟩
  · obtain ⟨z, hz, hz2⟩ : ∃ z : Int, (c : Int) = z ∧ (z = 4 ∨ z = 6) := ⟨(c : Int), rfl, by omega⟩
    rw [unV_z a b c z hz] at HU
    have HE : Hid (ufV (unframe s.data.toList) = .tuple #[.string ⟨#[]⟩, .int .i64 0, .int .i64 z]) := hideIt (by rw [e, ← hz]; rfl)
    clear e hz h
    rcases hz2 with rfl | rfl
    all_goals
      go_enter Tryz.func56, Tryz.ntmps56
      go_wp2_with (first | (go_at_call 80; refine (HU.out _).mono ?_; rintro e w2 ⟨rfl, rfl⟩))
      go_ret3
      exact ⟨by rw [HE.out]; rfl, Below.refl _ _⟩
  · subst hc
    rw [unV_z a b 0 0 rfl] at HU
    have HE := hideIt e
    have h1 : (2097152 : Int) < (a : Int) := by omega
    clear e
    go_enter Tryz.func56, Tryz.ntmps56
    go_wp2_with (first | (go_at_call 80; refine (HU.out _).mono ?_; rintro e w2 ⟨rfl, rfl⟩))
    go_ret3
    exact ⟨by rw [HE.out]; rfl, Below.refl _ _⟩
  · subst hc
    rw [unV_z a b 0 0 rfl] at HU
    have HE := hideIt e
    have h1 : ¬ (2097152 : Int) < (a : Int) := by omega
    have h1d : decide ((2097152 : Int) < (a : Int)) = false := decide_eq_false h1
    have a3 : (a : Int) ≤ 2097152 := by omega
    have b3 : (b : Int) ≤ 100000 := by omega
    have h2 : (s.size : Int) < (b : Int) + (a : Int) + 4 := by omega
    have h2d : decide ((s.size : Int) < (b : Int) + (a : Int) + 4) = true := decide_eq_true h2
    clear e
    go_enter Tryz.func56, Tryz.ntmps56
    go_wp2_with (first | (go_at_call 80; refine (HU.out _).mono ?_; rintro e w2 ⟨rfl, rfl⟩))
    go_ret3
    exact ⟨by rw [HE.out]; rfl, Below.refl _ _⟩
  · subst hc
    rw [unV_z a b 0 0 rfl] at HU
    have HE := hideIt e
    obtain ⟨p, hp⟩ : ∃ p, b + a = p := ⟨_, rfl⟩
    obtain ⟨q, hq⟩ : ∃ q, p + 4 = q := ⟨_, rfl⟩
    rw [hp] at hn
    rw [hq] at hn
    obtain ⟨A, hA⟩ : ∃ A, s.extract p q = A := ⟨_, rfl⟩
    obtain ⟨B, hB⟩ : ∃ B, s.extract 0 p = B := ⟨_, rfl⟩
    rw [hA, hB] at hn
    obtain ⟨C, hC⟩ : ∃ C, bs (told B.data.toList) = C := ⟨_, rfl⟩
    have HC := hideIt (fun w hK => checktext_any B w hK (by rw [← hB, ByteArray.size_extract]; omega))
    rw [hC] at HC
    have n1 : (A.toList == C.toList) = false := by rw [ByteArray.toList_eq, ByteArray.toList_eq, ← hC, bs_list]; simpa using hn
    have n2 : (A.toList != C.toList) = true := by rw [bne, n1]; rfl
    have h1 : ¬ (2097152 : Int) < (a : Int) := by omega
    have h1d : decide ((2097152 : Int) < (a : Int)) = false := decide_eq_false h1
    have a3 : (a : Int) ≤ 2097152 := by omega
    have p1 : (b : Int) + (a : Int) = (p : Int) := by omega
    have p2 : (p : Int) + 4 = (q : Int) := by omega
    have p3 : (p : Int) ≤ (q : Int) := by omega
    have p4 : (q : Int) ≤ (s.size : Int) := by omega
    have p5 : (p : Int) ≤ (s.size : Int) := by omega
    have p6 : (0 : Int) ≤ (p : Int) := by omega
    have p9 : (p : Int) ≤ 100000 := by omega
    have g1 : ¬ s.size < q := by omega
    have g2 : q ≤ s.size := by omega
    have g3 : p ≤ q := by omega
    have g4 : p ≤ s.size := by omega
    have p10 : (q : Int) ≤ 100000 := by omega
    have b3 : (b : Int) ≤ 100000 := by omega
    have p7 : ¬ (s.size : Int) < (q : Int) := by omega
    have p8 : decide ((s.size : Int) < (q : Int)) = false := decide_eq_false p7
    clear e hn hC hp hq
    go_enter Tryz.func56, Tryz.ntmps56
    go_wp2_with (first | (go_at_call 80; refine (HU.out _).mono ?_; rintro e w2 ⟨rfl, rfl⟩))
    go_region_held3 (fun w' => KAt w' ∧ Below w.heap.size w w') (first | (exact ⟨HK.out, (Below.refl _ _).drew⟩) | assumption | (exact ⟨K_below hb1 (‹KAt _ ∧ _›).1, below2 (‹KAt _ ∧ _›).2 hb1⟩)) (first | (go_at_call 45; refine (HC.out _ ?_).mono ?_; exact (‹KAt _ ∧ _›).1; rintro e w1 ⟨rfl, hb1⟩))
    all_goals go_wp2
    all_goals go_ret3
    all_goals exact ⟨by rw [HE.out]; rfl, (‹KAt _ ∧ _›).2⟩
  · subst hc
    rw [unV_z a b 0 0 rfl] at HU
    obtain ⟨p, hp⟩ : ∃ p, b + a = p := ⟨_, rfl⟩
    obtain ⟨q, hq⟩ : ∃ q, p + 4 = q := ⟨_, rfl⟩
    rw [hp] at hn e
    rw [hq] at hn e
    obtain ⟨A, hA⟩ : ∃ A, s.extract p q = A := ⟨_, rfl⟩
    obtain ⟨B, hB⟩ : ∃ B, s.extract 0 p = B := ⟨_, rfl⟩
    rw [hA, hB] at hn
    obtain ⟨D, hD⟩ : ∃ D, s.extract b p = D := ⟨_, rfl⟩
    rw [hD] at e
    have HE := hideIt e
    have HL := hideIt (fun w => clone_any D w (by rw [← hD, ByteArray.size_extract]; omega))
    obtain ⟨C, hC⟩ : ∃ C, bs (told B.data.toList) = C := ⟨_, rfl⟩
    have HC := hideIt (fun w hK => checktext_any B w hK (by rw [← hB, ByteArray.size_extract]; omega))
    rw [hC] at HC
    have n1 : (A.toList == C.toList) = true := by rw [ByteArray.toList_eq, ByteArray.toList_eq, ← hC, bs_list]; simpa using hn
    have n2 : (A.toList != C.toList) = false := by rw [bne, n1]; rfl
    have h1 : ¬ (2097152 : Int) < (a : Int) := by omega
    have h1d : decide ((2097152 : Int) < (a : Int)) = false := decide_eq_false h1
    have a3 : (a : Int) ≤ 2097152 := by omega
    have p1 : (b : Int) + (a : Int) = (p : Int) := by omega
    have p2 : (p : Int) + 4 = (q : Int) := by omega
    have p3 : (p : Int) ≤ (q : Int) := by omega
    have p4 : (q : Int) ≤ (s.size : Int) := by omega
    have p5 : (p : Int) ≤ (s.size : Int) := by omega
    have p6 : (0 : Int) ≤ (p : Int) := by omega
    have g5 : b ≤ p := by omega
    have g6 : (b : Int) ≤ (p : Int) := by omega
    have p9 : (p : Int) ≤ 100000 := by omega
    have g1 : ¬ s.size < q := by omega
    have g2 : q ≤ s.size := by omega
    have g3 : p ≤ q := by omega
    have g4 : p ≤ s.size := by omega
    have p10 : (q : Int) ≤ 100000 := by omega
    have b3 : (b : Int) ≤ 100000 := by omega
    have p7 : ¬ (s.size : Int) < (q : Int) := by omega
    have p8 : decide ((s.size : Int) < (q : Int)) = false := decide_eq_false p7
    clear e hn hC hp hq
    go_enter Tryz.func56, Tryz.ntmps56
    go_wp2_with (first | (go_at_call 80; refine (HU.out _).mono ?_; rintro e w2 ⟨rfl, rfl⟩))
    go_region_held3 (fun w' => KAt w' ∧ Below w.heap.size w w') (first | (exact ⟨HK.out, (Below.refl _ _).drew⟩) | assumption | (exact ⟨K_below hb1 (‹KAt _ ∧ _›).1, below2 (‹KAt _ ∧ _›).2 hb1⟩)) (first | (go_at_call 45; refine (HC.out _ ?_).mono ?_; exact (‹KAt _ ∧ _›).1; rintro e w1 ⟨rfl, hb1⟩))
    all_goals have hS := ‹KAt _ ∧ _›
    all_goals go_wp2_with (first | (go_at_call 66; refine (HL.out _).mono ?_; rintro e w3 ⟨rfl, hb3⟩))
    all_goals go_ret3
    all_goals exact ⟨by rw [HE.out, ufV]; simp only [bs_data]; rfl, below2 hS.2 hb3⟩
end Go.Proofs.YtknmmlfdlfioiaaGreatDoor.Cb
