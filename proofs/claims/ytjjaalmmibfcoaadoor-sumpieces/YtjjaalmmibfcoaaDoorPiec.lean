/- Bytes that come in pieces, walked. -/
import Derived.Test.YtjjaalmmibfcoaaDoorLaws
namespace Go.Proofs.YtjjaalmmibfcoaaDoor
open Go.RowKit
structure PM (N : Nat) (A : List UInt8) (h : Nat → BitVec 32) (b : Nat → UInt8) (w0 w : World) : Prop where
  below : Below N w0 w
  row : w.heap[N]? = some (.cells (Sha.stA h b A.length) 45 (0, 0))
  rep : A ≠ [] → Sha.Rep A h b
theorem PM.lt {N : Nat} {A : List UInt8} {h : Nat → BitVec 32} {b : Nat → UInt8} {w0 w : World} (hm : PM N A h b w0 w) : N < w.heap.size := (Array.getElem?_eq_some_iff.1 hm.row).1
theorem PM.K {A : List UInt8} {h : Nat → BitVec 32} {b : Nat → UInt8} {w0 w : World} (hm : PM w0.heap.size A h b w0 w) (hK : KAt w0) : KAt w := K_below hm.below (K_pos hK) hK
theorem PM.later {N : Nat} {A : List UInt8} {h : Nat → BitVec 32} {b : Nat → UInt8} {w0 w w1 : World} (hm : PM N A h b w0 w) (hb : Below w.heap.size w w1) : PM N A h b w0 w1 :=
  ⟨hm.below.trans (hb.mono (Nat.le_of_lt hm.lt)), by rw [hb.block _ hm.lt]; exact hm.row, hm.rep⟩
theorem PM.wrote {N : Nat} {A t : List UInt8} {h h' : Nat → BitVec 32} {b b' : Nat → UInt8} {w0 w w1 : World} (hm : PM N A h b w0 w) (hst : StMem N (A.length + t.length) h' b' w w1) (hr : Sha.Rep (A ++ t) h' b') : PM N (A ++ t) h' b' w0 w1 :=
  ⟨hm.below.trans (hst.but.below (Nat.le_of_lt hm.lt)), by rw [List.length_append]; exact hst.row, fun _ => hr⟩
theorem sum_PM {A : List UInt8} {h : Nat → BitVec 32} {b : Nat → UInt8} {w0 w : World} (hm : PM w0.heap.size A h b w0 w) (hK : KAt w0) (hsz : A.length < 100000000) :
    Calls Tryd.prog 13 #[.pointer (some ⟨w0.heap.size, 0, none⟩)] w fun e w' => e = .returned (.string (Sha.sha A)) ∧ Below w.heap.size w w' := sum_any _ A h b w (hm.K hK) hm.row hm.rep hsz
def pieces (w : World) (n : Nat) (va vi : Value) (w' : World) : Prop :=
  ∃ (i : Nat) (o : ByteArray) (h : Nat → BitVec 32) (b : Nat → UInt8), i ≤ n ∧ i ≤ 12 ∧ va = .string o ∧ vi = .int .i64 i ∧ o.size ≤ 400 * i ∧ PM w.heap.size o.data.toList h b w w'
set_option maxHeartbeats 2000000 in
set_option maxRecDepth 100000 in
theorem pieces_some (bl off n c : Nat) (ss : Nat → ByteArray) (ask : Int) (w : World) (hK : KAt w) (hbl : bl < w.heap.size) (hss : ∀ j, j < n → (ss j).size ≤ maxLen)
    (hcell : ∀ j, j < n → w.cell? ⟨bl, off + j, none⟩ = some (.string (ss j))) :
    Calls Tryd.prog 4 #[.slice (some ⟨bl, off, none⟩) n c, .int .i64 ask] w fun e w' => e = .returned (.bool true) ∧ Below w.heap.size w w' := by
  have HK := hideIt hK
  have HC := hideIt hcell
  have HSS := hideIt hss
  have HM0 : Hid (PM w.heap.size [] (fun _ => 0#32) (fun _ => 0) w (w.alloc (.cells (Sha.stA (fun _ => 0#32) (fun _ => 0) 0) 45))) := ⟨new_below w, alloc_at rfl, fun h => absurd rfl h⟩
  clear hK hcell hss
  go_enter Tryd.func4, Tryd.ntmps4
  go_wp2_with (first | (go_at_call 11; refine (new_any _).mono ?_; rintro e w0 ⟨rfl, rfl⟩))
  go_loopw [6, 7] (fun va vi w' => pieces w n va vi w') (fun _ vi _ => 12 - (intOf vi).toNat)
  case atStart => exact ⟨0, _, _, _, Nat.zero_le _, Nat.zero_le _, rfl, rfl, Nat.zero_le _, HM0.out⟩
  case round =>
    obtain ⟨i, o, h, b, hin, hi12, rfl, rfl, hol, hm⟩ := hrel
    by_cases hlt : i < n ∧ i < 12
    · obtain ⟨hlt1, hlt2⟩ := hlt
      have l1 : (i : Int) < (n : Int) := by omega
      have l2 : (i : Int) < 12 := by omega
      have hd1 : decide ((i : Int) < (n : Int)) = true := by simp; omega
      have hd2 : decide ((i : Int) < 12) = true := by simp; omega
      have cl : wr.cell? ⟨bl, off + i, none⟩ = some (.string (ss i)) := by rw [hm.below.cell (p := ⟨bl, off + i, none⟩) hbl]; exact HC.out i hlt1
      have HFW := hideIt (fun w => few_any (ss i) w (HSS.out i hlt1))
      have fl := fewS_size (ss i)
      obtain ⟨f, hf⟩ : ∃ f, fewS (ss i) = f := ⟨_, rfl⟩
      obtain ⟨si, hsi⟩ : ∃ s, ss i = s := ⟨_, rfl⟩
      rw [hf, hsi] at HFW
      rw [hf] at fl
      rw [hsi] at cl
      have oL := str_len o
      have fL := str_len f
      have HOL := hideIt oL
      have HFL := hideIt fL
      have HR : Hid (∀ w, Calls Tryd.prog 10 #[.string (o ++ f)] w fun e w' => e = .returned (.string (Sha.sha (o.data.toList ++ f.data.toList))) ∧ Below w.heap.size w w') := by
        intro w
        have := ref_any (o ++ f) w (by rw [ByteArray.size_append]; omega)
        rw [cat_data] at this
        exact this
      have ho : (o.size : Int) ≤ 5000 := by omega
      have hfs : (f.size : Int) ≤ 400 := by omega
      clear hf hsi oL fL HM0
      by_cases heq : ((i : Int) == ask) = true
      · go_wp2_with (first | (go_at_call 9; refine (HFW.out _).mono ?_; rintro e w0 ⟨rfl, rfl⟩) | (go_at_call 12; refine (write_str w.heap.size o.data.toList h b f _ (hm.K HK.out) (K_pos HK.out) hm.row hm.rep (by have := HOL.out; have := HFL.out; omega)).mono ?_; rintro e w2 ⟨rfl, h2, b2, hst, hrep2⟩; have hm2 := hm.wrote hst hrep2; have cl2 := (hm2.below.cell (p := ⟨bl, off + i, none⟩) hbl).trans ((hm.below.cell (p := ⟨bl, off + i, none⟩) hbl).symm.trans cl)) | (go_at_call 13; refine (sum_PM hm2 HK.out (by rw [List.length_append]; have := HOL.out; have := HFL.out; omega)).mono ?_; rintro e w3 ⟨rfl, hb3⟩) | (go_at_call 10; refine (HR.out _).mono ?_; rintro e w4 ⟨rfl, hb4⟩))
        go_roundw
        case rel =>
          refine ⟨i + 1, _, h2, b2, by omega, by omega, rfl, by go_num, ?_, ?_⟩
          · rw [ByteArray.size_append]; omega
          · rw [cat_data]; exact (hm2.later hb3).later hb4
        case measure => simp [intOf]; omega
      · have heq' : ((i : Int) == ask) = false := by simpa using heq
        clear heq
        go_wp2_with (first | (go_at_call 9; refine (HFW.out _).mono ?_; rintro e w0 ⟨rfl, rfl⟩) | (go_at_call 12; refine (write_str w.heap.size o.data.toList h b f _ (hm.K HK.out) (K_pos HK.out) hm.row hm.rep (by have := HOL.out; have := HFL.out; omega)).mono ?_; rintro e w2 ⟨rfl, h2, b2, hst, hrep2⟩; have hm2 := hm.wrote hst hrep2; have cl2 := (hm2.below.cell (p := ⟨bl, off + i, none⟩) hbl).trans ((hm.below.cell (p := ⟨bl, off + i, none⟩) hbl).symm.trans cl)))
        go_roundw
        case rel =>
          refine ⟨i + 1, _, h2, b2, by omega, by omega, rfl, by go_num, ?_, ?_⟩
          · rw [ByteArray.size_append]; omega
          · rw [cat_data]; exact hm2
        case measure => simp [intOf]; omega
    · have oL := str_len o
      have HOL := hideIt oL
      have HPM := hideIt hm
      clear oL HM0 hm
      rcases Nat.lt_or_ge i n with hx | hx
      · have hd1 : decide ((i : Int) < (n : Int)) = true := by simp; omega
        have l1 : (i : Int) < (n : Int) := by omega
        have hd2 : decide ((i : Int) < 12) = false := by simp; omega
        have l2 : ¬ (i : Int) < 12 := by omega
        clear hlt
        go_wp2_with (first | (go_at_call 7; refine (awake_any _ (HPM.out.K HK.out)).mono ?_; rintro e w1 ⟨rfl, hb1⟩; have p1 := HPM.out.later hb1) | (go_at_call 10; refine (ref_any o _ (by omega)).mono ?_; rintro e w3 ⟨rfl, hb3⟩; have p3 := p2.later hb3) | (go_at_call 8; refine (of_any o _ (p4.K HK.out) (by omega)).mono ?_; rintro e w5 ⟨rfl, hb5⟩; have p5 := p4.later hb5) | (go_at_call 13; refine (sum_PM p3 HK.out (by have := HOL.out; omega)).mono ?_; rintro e w4 ⟨rfl, hb4⟩; have p4 := p3.later hb4) | (go_at_call 13; refine (sum_PM p1 HK.out (by have := HOL.out; omega)).mono ?_; rintro e w2 ⟨rfl, hb2⟩; have p2 := p1.later hb2))
        go_ret
        exact ⟨rfl, p5.below⟩
      · have hd1 : decide ((i : Int) < (n : Int)) = false := by simp; omega
        have l1 : ¬ (i : Int) < (n : Int) := by omega
        clear hlt
        go_wp2_with (first | (go_at_call 7; refine (awake_any _ (HPM.out.K HK.out)).mono ?_; rintro e w1 ⟨rfl, hb1⟩; have p1 := HPM.out.later hb1) | (go_at_call 10; refine (ref_any o _ (by omega)).mono ?_; rintro e w3 ⟨rfl, hb3⟩; have p3 := p2.later hb3) | (go_at_call 8; refine (of_any o _ (p4.K HK.out) (by omega)).mono ?_; rintro e w5 ⟨rfl, hb5⟩; have p5 := p4.later hb5) | (go_at_call 13; refine (sum_PM p3 HK.out (by have := HOL.out; omega)).mono ?_; rintro e w4 ⟨rfl, hb4⟩; have p4 := p3.later hb4) | (go_at_call 13; refine (sum_PM p1 HK.out (by have := HOL.out; omega)).mono ?_; rintro e w2 ⟨rfl, hb2⟩; have p2 := p1.later hb2))
        go_ret
        exact ⟨rfl, p5.below⟩
set_option maxHeartbeats 2000000 in
set_option maxRecDepth 100000 in
theorem pieces_zero (a0 : Option Addr) (c : Nat) (ask : Int) (w : World) (hK : KAt w) :
    Calls Tryd.prog 4 #[.slice a0 0 c, .int .i64 ask] w fun e w' => e = .returned (.bool true) ∧ Below w.heap.size w w' := by
  have HK := hideIt hK
  have HM0 : Hid (PM w.heap.size [] (fun _ => 0#32) (fun _ => 0) w (w.alloc (.cells (Sha.stA (fun _ => 0#32) (fun _ => 0) 0) 45))) := ⟨new_below w, alloc_at rfl, fun h => absurd rfl h⟩
  clear hK
  go_enter Tryd.func4, Tryd.ntmps4
  go_wp2_with (first | (go_at_call 11; refine (new_any _).mono ?_; rintro e w0 ⟨rfl, rfl⟩))
  go_loopw [6, 7] (fun va vi w' => pieces w 0 va vi w') (fun _ vi _ => 12 - (intOf vi).toNat)
  case atStart => exact ⟨0, _, _, _, Nat.zero_le _, Nat.zero_le _, rfl, rfl, Nat.zero_le _, HM0.out⟩
  case round =>
    obtain ⟨i, o, h, b, hin, hi12, rfl, rfl, hol, hm⟩ := hrel
    obtain rfl : i = 0 := by omega
    have oL := str_len o
    have HOL := hideIt oL
    have HPM := hideIt hm
    clear oL HM0 hm hin hi12
    go_wp2_with (first | (go_at_call 7; refine (awake_any _ (HPM.out.K HK.out)).mono ?_; rintro e w1 ⟨rfl, hb1⟩; have p1 := HPM.out.later hb1) | (go_at_call 10; refine (ref_any o _ (by omega)).mono ?_; rintro e w3 ⟨rfl, hb3⟩; have p3 := p2.later hb3) | (go_at_call 8; refine (of_any o _ (p4.K HK.out) (by omega)).mono ?_; rintro e w5 ⟨rfl, hb5⟩; have p5 := p4.later hb5) | (go_at_call 13; refine (sum_PM p3 HK.out (by have := HOL.out; omega)).mono ?_; rintro e w4 ⟨rfl, hb4⟩; have p4 := p3.later hb4) | (go_at_call 13; refine (sum_PM p1 HK.out (by have := HOL.out; omega)).mono ?_; rintro e w2 ⟨rfl, hb2⟩; have p2 := p1.later hb2))
    go_ret
    exact ⟨rfl, p5.below⟩
end Go.Proofs.YtjjaalmmibfcoaaDoor
