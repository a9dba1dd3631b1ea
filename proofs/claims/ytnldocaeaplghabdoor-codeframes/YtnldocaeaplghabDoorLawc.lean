/- The law of checks, walked. -/
import Derived.Test.YtnldocaeaplghabDoorRefc
import Derived.Test.YtnldocaeaplghabDoorAwake
import Derived.Deep.RegionHeld3
namespace Go.Proofs.YtnldocaeaplghabDoor
open Go.RowKit
theorem K_pos {w : World} (hK : KAt w) : 0 < w.heap.size := block_lt_of_cell (hK 0 (by omega))
theorem K_below {w w' : World} (h : Below w.heap.size w w') (hK : KAt w) : KAt w' := fun i hi => by rw [h.cell (p := ⟨0, i, none⟩) (K_pos hK)]; exact hK i hi
theorem wrap_small' (x : Int) (h0 : 0 ≤ x) (h1 : x < 9223372036854775808) : IntKind.i64.wrap x = x := by rw [IntKind.wrap_i64]; omega
theorem flipC {P : Program} {f : Nat} {a : Array Value} {w : World} {v : Value} (h : Calls P f a w fun e w' => e = .returned v ∧ w' = w) : Calls P f a w fun e w' => e = .returned v ∧ w = w' := h.mono fun _ _ h => ⟨h.1, h.2.symm⟩
theorem data_first (s : ByteArray) (k : Nat) : (s.extract 0 k).data.toList = s.data.toList.take k := by
  rw [ByteArray.data_extract]; simp
theorem data_rest (s : ByteArray) (k : Nat) : (s.extract k s.size).data.toList = s.data.toList.drop k := by
  rw [ByteArray.data_extract, Array.toList_extract, List.extract_eq_take_drop, List.take_of_length_le (by rw [List.length_drop, str_len]; omega)]
theorem split_at (s : ByteArray) (k : Nat) (h : k < s.size) : s.data.toList = s.data.toList.take k ++ s[k] :: s.data.toList.drop (k + 1) := by
  have e : s[k] = s.data.toList[k]'(by rw [str_len]; exact h) := rfl
  rw [e, ← List.drop_eq_getElem_cons, List.take_append_drop]
theorem run_oneD (u : UInt8) (w : World) : (convert 26 9 (.slice (some ⟨w.heap.size, 0, none⟩) 1 1)).run Tryd.prog (w.alloc (.cells #[.int .u8 (u.toNat : Int)] 5)).drew = .ok (.string (bs [u])) (w.alloc (.cells #[.int .u8 (u.toNat : Int)] 5)).drew :=
  run_row [u] (w.alloc (.cells #[.int .u8 (u.toNat : Int)] 5)).drew w.heap.size 5 (by rw [heap_drew]; exact alloc_at rfl) 1
theorem xor_byte (a b : UInt8) : bits .xor .u8 (a.toNat : Int) (b.toNat : Int) = ((a ^^^ b).toNat : Int) := by
  rw [u8_xor_nat _ _ a.toNat_lt b.toNat_lt, UInt8.toNat_xor]
theorem xor_other (a b : UInt8) (h : b ≠ 0) : a ^^^ b ≠ a := by
  intro e
  apply h
  have := congrArg (fun x => a ^^^ x) e
  simpa [← UInt8.xor_assoc] using this
set_option maxHeartbeats 800000 in
set_option maxRecDepth 100000 in
theorem checks_law (s : ByteArray) (z : Int) (y : UInt8) (w : World) (hs : s.size ≤ maxLen) (hz0 : -9223372036854775808 ≤ z) (hz1 : z ≤ 9223372036854775807) (hK : KAt w) :
    Calls Tryd.prog 3 #[.string s, .int .i64 z, .int .u8 (y.toNat : Int)] w fun e w' => e = .returned (.bool true) ∧ Below w.heap.size w w' := by
  have hf := fewS_size s
  have HF := hideIt (fun w => flipC (few_any s w hs))
  obtain ⟨f, hfe⟩ : ∃ f, fewS s = f := ⟨_, rfl⟩
  rw [hfe] at hf HF
  have HK := hideIt hK
  have HA := hideIt awake_any
  have HC := hideIt (fun w hK => check_any f w hK (by omega))
  have HR := hideIt (fun w => refcheck_any f w (by omega))
  obtain ⟨q, hq⟩ : ∃ q, Crc.crc f.data.toList = q := ⟨_, rfl⟩
  rw [hq] at HC HR
  clear hs hfe hK
  have yl := y.toNat_lt
  by_cases hin : 0 ≤ z ∧ z < (f.size : Int) ∧ y ≠ 0
  · obtain ⟨k, rfl⟩ : ∃ k : Nat, z = (k : Int) := ⟨z.toNat, by omega⟩
    have hk : k < f.size := by omega
    obtain ⟨a, ha⟩ : ∃ a, f[k] = a := ⟨_, rfl⟩
    obtain ⟨x, hx⟩ : ∃ x, a ^^^ y = x := ⟨_, rfl⟩
    have e1 := xor_byte a y
    rw [hx] at e1
    have hne : x ≠ a := by rw [← hx]; exact xor_other a y hin.2.2
    obtain ⟨A, hA⟩ : ∃ A, f.extract 0 k = A := ⟨_, rfl⟩
    obtain ⟨B, hB⟩ : ∃ B, f.extract (k + 1) f.size = B := ⟨_, rfl⟩
    obtain ⟨o, ho⟩ : ∃ o, bs [x] = o := ⟨_, rfl⟩
    have sA : A.size ≤ 300 := by rw [← hA, ByteArray.size_extract]; omega
    have sB : B.size ≤ 300 := by rw [← hB, ByteArray.size_extract]; omega
    have so : o.size ≤ 1 := by rw [← ho, bs_size]; simp
    have t1 : ¬ 9223372036854775807 < A.size + o.size := by omega
    have t2 : ¬ 9223372036854775807 < A.size + o.size + B.size := by omega
    have hdat : (A ++ o ++ B).data.toList = f.data.toList.take k ++ x :: f.data.toList.drop (k + 1) := by
      rw [cat_data, cat_data, ← hA, ← hB, ← ho, data_first, data_rest, bs_list]; simp
    have HD := hideIt (fun w hK => check_any (A ++ o ++ B) w hK (by rw [ByteArray.size_append, ByteArray.size_append]; omega))
    obtain ⟨p, hp⟩ : ∃ p, Crc.crc (A ++ o ++ B).data.toList = p := ⟨_, rfl⟩
    rw [hp] at HD
    have hpq : p ≠ q := by
      rw [← hp, ← hq, hdat]
      have e := split_at f k hk
      rw [ha] at e
      rw [e]
      have e2 : (f.data.toList.take k ++ a :: f.data.toList.drop (k + 1)).take k = f.data.toList.take k := by rw [← e]
      have e3 : (f.data.toList.take k ++ a :: f.data.toList.drop (k + 1)).drop (k + 1) = f.data.toList.drop (k + 1) := by rw [← e]
      rw [e2, e3]
      exact Crc.crc_other _ _ _ _ hne
    have n1 : ¬ (p.toNat : Int) = (q.toNat : Int) := fun h => hpq (BitVec.eq_of_toNat_eq (by omega))
    have n2 : ((p.toNat : Int) == (q.toNat : Int)) = false := by simpa using n1
    have n3 : ((p.toNat : Int) != (q.toNat : Int)) = true := by simpa using n1
    have k0 : (0 : Int) ≤ (k : Int) := by omega
    have k1 : (k : Int) < (f.size : Int) := by omega
    have k2 : (k : Int) + 1 ≤ (f.size : Int) := by omega
    have k3 : (k : Int) ≤ (f.size : Int) := by omega
    have k4 : (0 : Int) ≤ (k : Int) + 1 := by omega
    have kd : decide ((k : Int) < 0) = false := decide_eq_false (by omega)
    have kg : decide ((f.size : Int) ≤ (k : Int)) = false := decide_eq_false (by omega)
    have kw := wrap_small' ((k : Int) + 1) (by omega) (by omega)
    have y0 : ¬ (y.toNat : Int) = 0 := fun h => hin.2.2 (UInt8.toNat_inj.1 (by simpa using h))
    have y1 : ((y.toNat : Int) == 0) = false := by simpa using y0
    have hcv := run_oneD x
    rw [ho] at hcv
    clear hin hdat hp hq hpq ho hx hne
    go_enter Tryd.func3, Tryd.ntmps3
    go_wp2_with (first | (go_at_call 6; refine (HF.out _).mono ?_; rintro e w0 ⟨rfl, rfl⟩) | (go_at_call 7; refine (HA.out _).mono ?_; rintro e w1 ⟨rfl, hb1⟩; have hK1 := hideIt (K_below hb1 HK.out)) | (go_at_call 8; refine (HC.out _ hK1.out).mono ?_; rintro e w2 ⟨rfl, rfl⟩) | (go_at_call 9; refine (HR.out _).mono ?_; rintro e w3 ⟨rfl, rfl⟩))
    have hK2 := hideIt (K_below (((Below.refl w1.heap.size w1).alloc (Nat.le_refl _) (.cells #[.int .u8 (x.toNat : Int)] 5)).drew) hK1.out)
    first | (go_region_with (first | (go_at_call_of 8 (Value.string f); refine (HC.out _ hK2.out).mono ?_; rintro e w2 ⟨rfl, rfl⟩) | (go_at_call 8; refine (HD.out _ hK2.out).mono ?_; rintro e w2 ⟨rfl, rfl⟩))) | fail
    all_goals go_wp2
    all_goals go_ret
    all_goals exact ⟨by first | rfl | (rw [← n3]; rfl), (hb1.alloc hb1.size _).drew⟩
  · have hcase : decide (z < 0) = true ∨ (decide (z < 0) = false ∧ ¬ z < 0 ∧ decide ((f.size : Int) ≤ z) = true ∧ (f.size : Int) ≤ z) ∨ (decide (z < 0) = false ∧ ¬ z < 0 ∧ decide ((f.size : Int) ≤ z) = false ∧ ¬ (f.size : Int) ≤ z ∧ y = 0) := by
      rw [decide_eq_true_iff, decide_eq_false_iff_not, decide_eq_true_iff, decide_eq_false_iff_not]
      by_cases h1 : z < 0
      · exact Or.inl h1
      · by_cases h2 : (f.size : Int) ≤ z
        · exact Or.inr (Or.inl ⟨h1, h1, h2, h2⟩)
        · refine Or.inr (Or.inr ⟨h1, h1, h2, h2, ?_⟩)
          by_cases h3 : y = 0
          · exact h3
          · exact absurd ⟨by omega, by omega, h3⟩ hin
    clear hin hq
    rcases hcase with c1 | ⟨c1, c2, c3, c4⟩ | ⟨c1, c2, c3, c4, rfl⟩
    all_goals
      go_enter Tryd.func3, Tryd.ntmps3
      go_wp2_with (first | (go_at_call 6; refine (HF.out _).mono ?_; rintro e w0 ⟨rfl, rfl⟩) | (go_at_call 7; refine (HA.out _).mono ?_; rintro e w1 ⟨rfl, hb1⟩; have hK1 := hideIt (K_below hb1 HK.out)) | (go_at_call 8; refine (HC.out _ hK1.out).mono ?_; rintro e w2 ⟨rfl, rfl⟩) | (go_at_call 9; refine (HR.out _).mono ?_; rintro e w3 ⟨rfl, rfl⟩))
      go_ret
      exact ⟨rfl, hb1⟩
end Go.Proofs.YtnldocaeaplghabDoor
