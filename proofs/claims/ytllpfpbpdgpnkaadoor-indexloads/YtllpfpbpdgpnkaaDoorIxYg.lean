/- Indexes: the document's bytes of an index: walked. -/
import Derived.Test.YtllpfpbpdgpnkaaDoorIxYf
import Derived.Test.YtllpfpbpdgpnkaaDoorSaRef
namespace Go.Proofs.YtllpfpbpdgpnkaaDoor.Ix
open Cb Go.RowKit Go.Shelf
set_option maxHeartbeats 400000 in
set_option maxRecDepth 100000 in
theorem reffour_any (n : Nat) (w : World) (hn : n < 4294967296) :
    Calls Tryd.prog 28 #[.int .i64 (n : Int)] w fun e w' => e = .returned (.string (bs (fourL n))) ∧ Below w.heap.size w w' := by
  have e0 := byte_val n 3 16777216 (by decide)
  have e1 := byte_val n 2 65536 (by decide)
  have e2 := byte_val n 1 256 (by decide)
  have e3 := byte_val n 0 1 (by decide)
  have hf : fourL n = [UInt8.ofNat (n / 256 ^ 3 % 256), UInt8.ofNat (n / 256 ^ 2 % 256), UInt8.ofNat (n / 256 ^ 1 % 256), UInt8.ofNat (n / 256 ^ 0 % 256)] := by simp [fourL]
  obtain ⟨Z, hZ⟩ : ∃ Z, bs (fourL n) = Z := ⟨_, rfl⟩
  rw [hZ]
  rw [hf] at hZ
  generalize UInt8.ofNat (n / 256 ^ 3 % 256) = y0 at e0 hZ
  generalize UInt8.ofNat (n / 256 ^ 2 % 256) = y1 at e1 hZ
  generalize UInt8.ofNat (n / 256 ^ 1 % 256) = y2 at e2 hZ
  generalize UInt8.ofNat (n / 256 ^ 0 % 256) = y3 at e3 hZ
  have f0 : (n : Int) / 16777216 = (y0.toNat : Int) := by omega
  have f1 : (n : Int) / 65536 % 256 = (y1.toNat : Int) := by omega
  have f2 : (n : Int) / 256 % 256 = (y2.toNat : Int) := by omega
  have f3 : (n : Int) % 256 = (y3.toNat : Int) := by omega
  have b0 := y0.toNat_lt
  have b1 := y1.toNat_lt
  have b2 := y2.toNat_lt
  have b3 := y3.toNat_lt
  have hrow : (w.alloc (.cells #[.int .u8 (y0.toNat : Int), .int .u8 (y1.toNat : Int), .int .u8 (y2.toNat : Int), .int .u8 (y3.toNat : Int)] 5)).ownsRow w.heap.size 5 1 (.slice (some ⟨w.heap.size, 0, none⟩) 4 4) 4 (u8s [y0, y1, y2, y3]) :=
    ⟨rfl, .inr ⟨w.heap.size, 4, _, rfl, Nat.le_refl _, alloc_at rfl, Nat.le_refl _, by unfold maxLen; omega, rfl, rfl⟩⟩
  have hcv := run_own hrow
  rw [hZ] at hcv
  have HB : Hid (Below w.heap.size w (w.alloc (.cells #[.int .u8 (y0.toNat : Int), .int .u8 (y1.toNat : Int), .int .u8 (y2.toNat : Int), .int .u8 (y3.toNat : Int)] 5))) := hideIt ((Below.refl _ _).alloc (Nat.le_refl _) _)
  have nI : (n : Int) < 4294967296 := by omega
  clear hrow e0 e1 e2 e3 hf hZ
  go_enter Tryd.func28, Tryd.ntmps28
  go_wp2
  go_ret
  exact ⟨rfl, HB.out⟩
theorem cnt_snoc (l : List Sp) (i : Nat) (x : Sp) (b : Nat) (h : l[i]? = some x) : cnt (l.take (i + 1)) b = cnt (l.take i) b + if hd x ≤ b then 1 else 0 := by
  obtain ⟨hi, rfl⟩ := List.getElem?_eq_some_iff.1 h
  rw [List.take_succ_eq_append_getElem hi]
  unfold cnt
  rw [List.countP_append]
  by_cases h : hd l[i] ≤ b <;> simp [h]
set_option maxHeartbeats 1600000 in
set_option maxRecDepth 100000 in
theorem refencode_any (pack : ByteArray) (v : Value) (m : List Sp) (w : World) (h : SRow w v m) (hp : pack.size = 32) (hm : Right m) (hn : m.length ≤ 2048) :
    Calls Tryd.prog 13 #[.string pack, v] w fun e w' => e = .returned (.string (bs (encL pack m))) ∧ Below w.heap.size w w' := by
  have HR := hideIt (fun (w' : World) (hb : Below w.heap.size w w') => h.below hb)
  obtain ⟨a, c, rfl, hlc, ⟨hcm, hnn⟩, hrow⟩ := h
  have HFO := hideIt reffour_any
  have hst : (⟨#[112, 111, 108, 108, 97, 114, 100, 32, 105, 110, 100, 101, 120, 10]⟩ : ByteArray) ++ pack = bs (headL pack) := by
    rw [show (⟨#[112, 111, 108, 108, 97, 114, 100, 32, 105, 110, 100, 101, 120, 10]⟩ : ByteArray) = bs lineL from rfl, ← bs_data pack, bs_append, bs_data]
    rfl
  have HHL := hideIt (headL_len hp)
  have HCL := hideIt (countsL_len m)
  have HNX := hideIt (countsL_next m)
  have HSN := hideIt (spotsL_next m)
  have HAP := hideIt bs_append
  have HSZ := hideIt bs_size
  have HCS := hideIt (cnt_snoc m)
  have HWX := hideIt (fun (i : Nat) (x : Sp) (hx : m[i]? = some x) => wrong_size (hm x (List.mem_of_getElem? hx)))
  have HHD := hideIt (fun (x : Sp) (h : 0 < x.d.size) => hd_is h)
  have HCN : Hid (∀ i b, cnt (m.take i) b ≤ 2048) := hideIt (fun i b => by have := cnt_le (m.take i) b; simp at this; omega)
  have HTK : Hid (m.take m.length = m) := hideIt List.take_length
  have HBL : Hid (∀ i, (headL pack ++ countsL m 256 ++ spotsL (m.take i)).length ≤ 100000) := hideIt (fun i => by
    have h1 : (m.take i).length ≤ 2048 := by simp; omega
    have h2 := spotsL_len (m := m.take i) (fun x hx => hm x (List.mem_of_mem_take hx))
    rw [List.length_append, List.length_append, HHL.out, HCL.out, h2]
    omega)
  have HBE : Hid (headL pack ++ countsL m 256 ++ spotsL (m.take m.length) = bodyL pack m) := hideIt (by rw [List.take_length]; rfl)
  have HRS := hideIt (fun w => Sa.ref_any (bs (bodyL pack m)) w (by rw [bs_size, bodyL_len hp hm]; omega))
  rw [bs_list, show Sa.Sha.sha (bodyL pack m) = bs (shaL (bodyL pack m)) from (bs_data _).symm] at HRS
  have HEN : Hid (bs (bodyL pack m) ++ bs (shaL (bodyL pack m)) = bs (encL pack m)) := hideIt (by rw [bs_append]; rfl)
  have HB1 : Hid ((bs (bodyL pack m)).size ≤ 100000) := hideIt (by rw [bs_size, bodyL_len hp hm]; omega)
  have HB2 : Hid ((bs (shaL (bodyL pack m))).size = 32) := hideIt (by rw [bs_size, shaL_len])
  have ps : (pack.size : Int) = 32 := by omega
  obtain ⟨n, hnl⟩ : ∃ n, m.length = n := ⟨_, rfl⟩
  have HN := hideIt hnl
  rw [hnl] at hlc hn HTK HBE ⊢
  clear hnl hrow hnn hcm
  go_enter Tryd.func13, Tryd.ntmps13
  go_wp2
  go_loopw [5, 6, 7, 8] (fun t5 t6 _ _ wr => ∃ b : Nat, b ≤ 256 ∧ t6 = .int .i64 (b : Int) ∧ t5 = .string (bs (headL pack ++ countsL m b)) ∧ Below w.heap.size w wr) (fun _ t6 _ _ _ => 256 - (intOf t6).toNat)
  case atStart => exact ⟨0, by omega, rfl, by first | (rw [hst]; simp [countsL]) | simp [countsL], Below.refl _ _⟩
  case round =>
    obtain ⟨b, hb, rfl, rfl, hbl⟩ := hrel
    have HBO := hideIt hbl
    clear hbl
    by_cases hlt : b < 256
    · have b1 : (b : Int) < 256 := by omega
      have b2 : decide ((b : Int) < 256) = true := decide_eq_true b1
      have HNB : Hid (∀ S, bs (headL pack ++ countsL m b) = S → S ++ bs (fourL (cnt m b)) = bs (headL pack ++ countsL m (b + 1))) := hideIt (fun S hS => by rw [← hS, HAP.out, HNX.out, List.append_assoc])
      have hS1 : (bs (headL pack ++ countsL m b)).size ≤ 2000 := by rw [HSZ.out, List.length_append, HHL.out, HCL.out]; omega
      obtain ⟨S, hS⟩ : ∃ S, bs (headL pack ++ countsL m b) = S := ⟨_, rfl⟩
      rw [hS] at hS1 ⊢
      have HNB2 := hideIt (HNB.out S hS)
      have s1 : (S.size : Int) ≤ 2000 := by omega
      clear hS HNB
      go_wp2
      go_loopw [7, 8] (fun t7 t8 wr => ∃ i : Nat, i ≤ n ∧ t8 = .int .i64 (i : Int) ∧ t7 = .int .i64 (cnt (m.take i) b : Int) ∧ Below w.heap.size w wr) (fun _ t8 _ => n - (intOf t8).toNat)
      case atStart => exact ⟨0, by omega, rfl, rfl, HBO.out⟩
      case round =>
        obtain ⟨i, hi, rfl, rfl, hbl⟩ := hrel
        have HBO2 := hideIt hbl
        by_cases hlt2 : i < n
        · have i1 : (i : Int) < (n : Int) := by omega
          have i2 : decide ((i : Int) < (n : Int)) = true := decide_eq_true i1
          obtain ⟨x, hxi⟩ : ∃ x, m[i]? = some x := ⟨m[i]'(by rw [HN.out]; exact hlt2), by simp⟩
          obtain ⟨av, cv, hav, hle, hcm2, hrw⟩ := HR.out wr hbl
          cases hav
          obtain ⟨bb, o, rfl, hcells⟩ := hrw (by rw [HN.out]; omega)
          obtain ⟨c0, c1⟩ := hcells.2 i x hxi
          obtain ⟨z1, z2, z3⟩ := HWX.out i x hxi
          have hcs := HCS.out i x b hxi
          have h0 : 0 < x.d.size := by omega
          rw [HHD.out x h0] at hcs
          have hcn := HCN.out i b
          generalize x.d = D at c0 z1 h0 hcs
          obtain ⟨u, hu⟩ : ∃ u, D[0]'h0 = u := ⟨_, rfl⟩
          rw [hu] at hcs
          have hu8 := u.toNat_lt
          have i0 : (0 : Int) < (D.size : Int) := by omega
          generalize cnt (m.take i) b = k at hcs hcn
          have HCS2 := hideIt hcs
          clear hcs hcells hrw hcm2 hle hxi hbl
          by_cases hub : u.toNat ≤ b
          · have u1 : (u.toNat : Int) ≤ (b : Int) := by omega
            have u2 : decide ((u.toNat : Int) ≤ (b : Int)) = true := decide_eq_true u1
            have k1 : (k : Int) ≤ 2048 := by omega
            rw [if_pos hub] at HCS2
            go_wp2
            go_roundw
            case rel => exact ⟨i + 1, by omega, by go_num, by rw [HCS2.out]; go_num, HBO2.out⟩
            case measure => simp [intOf]; omega
          · have u1 : ¬ (u.toNat : Int) ≤ (b : Int) := by omega
            have u2 : decide ((u.toNat : Int) ≤ (b : Int)) = false := decide_eq_false u1
            rw [if_neg hub] at HCS2
            go_wp2
            go_roundw
            case rel => exact ⟨i + 1, by omega, by go_num, by rw [HCS2.out]; rfl, HBO2.out⟩
            case measure => simp [intOf]; omega
        · have i2 : decide ((i : Int) < (n : Int)) = false := decide_eq_false (by omega)
          obtain rfl : i = n := by omega
          rw [HTK.out]
          have HCN2 := hideIt (HCN.out i b)
          rw [HTK.out] at HCN2
          have hkk := HCN2.out
          have HF1 := hideIt (fun w => HFO.out (cnt m b) w (by omega))
          generalize cnt m b = k at hkk HF1 HNB2
          have hF2 : (bs (fourL k)).size = 4 := by rw [HSZ.out]; rfl
          generalize bs (fourL k) = F at HF1 HNB2 hF2
          have f2 : (F.size : Int) = 4 := by omega
          clear hbl
          go_wp2_with (first | (go_at_call 28; refine (HF1.out _).mono ?_; rintro e w1 ⟨rfl, hb1⟩; have B1 := hideIt (below2 HBO2.out hb1); clear hb1))
          go_roundw
          case rel => exact ⟨b + 1, by omega, by go_num, by rw [← HNB2.out], B1.out⟩
          case measure => simp [intOf]; omega
    · have b2 : decide ((b : Int) < 256) = false := decide_eq_false (by omega)
      rw [show countsL m b = countsL m 256 by rw [show b = 256 by omega]]
      have HE0 : Hid (bs (headL pack ++ countsL m 256) = bs (headL pack ++ countsL m 256 ++ spotsL (m.take 0))) := hideIt (by simp [spotsL])
      obtain ⟨S0, hS0⟩ : ∃ S0, bs (headL pack ++ countsL m 256) = S0 := ⟨_, rfl⟩
      rw [hS0] at HE0 ⊢
      clear hS0
      go_wp2
      go_loopw [5, 9] (fun t5 t9 wr => ∃ i : Nat, i ≤ n ∧ t9 = .int .i64 (i : Int) ∧ t5 = .string (bs (headL pack ++ countsL m 256 ++ spotsL (m.take i))) ∧ Below w.heap.size w wr) (fun _ t9 _ => n - (intOf t9).toNat)
      case atStart => exact ⟨0, by omega, rfl, by rw [HE0.out], HBO.out⟩
      case round =>
        obtain ⟨i, hi, rfl, rfl, hbl⟩ := hrel
        have HBO2 := hideIt hbl
        by_cases hlt2 : i < n
        · have i1 : (i : Int) < (n : Int) := by omega
          have i2 : decide ((i : Int) < (n : Int)) = true := decide_eq_true i1
          obtain ⟨x, hxi⟩ : ∃ x, m[i]? = some x := ⟨m[i]'(by rw [HN.out]; exact hlt2), by simp⟩
          obtain ⟨av, cv, hav, hle, hcm2, hrw⟩ := HR.out wr hbl
          cases hav
          obtain ⟨bb, o, rfl, hcells⟩ := hrw (by rw [HN.out]; omega)
          obtain ⟨c0, c1⟩ := hcells.2 i x hxi
          have HCC := hideIt (fun (w1 : World) (hb : Below wr.heap.size wr.drew w1) => (hcells.below (w' := w1) ⟨hb.1, hb.2, hb.3, hb.4, hb.5⟩).2 i x hxi)
          obtain ⟨z1, z2, z3⟩ := HWX.out i x hxi
          obtain ⟨pn, hpn⟩ : ∃ pn : Nat, x.pl = (pn : Int) := ⟨x.pl.toNat, by omega⟩
          have HF1 := hideIt (fun w => HFO.out pn w (by omega))
          have HSX := HSN.out i x hxi
          have hSz := HBL.out i
          rw [spotL, hpn, Int.toNat_natCast] at HSX
          rw [hpn] at c1 HCC
          have hap : ∀ S, bs (headL pack ++ countsL m 256 ++ spotsL (m.take i)) = S → S ++ (x.d ++ bs (fourL pn)) = bs (headL pack ++ countsL m 256 ++ spotsL (m.take (i + 1))) := fun S hS => by
            rw [← hS, ← bs_data x.d, HAP.out, HAP.out, HSX]
            simp only [List.append_assoc]
          rw [← HSZ.out] at hSz
          obtain ⟨S, hS⟩ : ∃ S, bs (headL pack ++ countsL m 256 ++ spotsL (m.take i)) = S := ⟨_, rfl⟩
          have HAP2 := hideIt (hap S hS)
          rw [hS] at hSz ⊢
          have s1 : (S.size : Int) ≤ 100000 := by omega
          generalize x.d = D at c0 z1 HAP2 HCC
          have d1 : (D.size : Int) = 32 := by omega
          have hF2 : (bs (fourL pn)).size = 4 := by rw [HSZ.out]; rfl
          generalize bs (fourL pn) = F at HF1 HAP2 hF2
          have f2 : (F.size : Int) = 4 := by omega
          have hDF : (D ++ F).size = 36 := by rw [ByteArray.size_append]; omega
          have df2 : ((D ++ F).size : Int) = 36 := by omega
          have p1 : (pn : Int) ≤ 4194304 := by omega
          have nb : ¬ 9223372036854775807 < S.size + 36 := by omega
          clear HSX hap hS hcells hrw hcm2 hle hxi hbl hpn z2 z3
          go_wp2
          go_region_law (first | (go_simp; go_at_call 28; refine (HF1.out _).mono ?_; rintro e w1 ⟨rfl, hb1⟩; dsimp only; obtain ⟨y0, y1⟩ := HCC.out _ hb1; have B1 := hideIt (below2 HBO2.out (a := wr) ⟨hb1.1, hb1.2, hb1.3, hb1.4, hb1.5⟩); clear hb1))
          all_goals go_wp2
          all_goals go_roundw
          case rel => exact ⟨i + 1, by omega, by go_num, by rw [← HAP2.out], B1.out⟩
          case measure => simp [intOf]; omega
          case rel => exact ⟨i + 1, by omega, by go_num, by rw [← HAP2.out], B1.out⟩
          case measure => simp [intOf]; omega
          case rel => exact ⟨i + 1, by omega, by go_num, by rw [← HAP2.out], B1.out⟩
          case measure => simp [intOf]; omega
        · have i2 : decide ((i : Int) < (n : Int)) = false := decide_eq_false (by omega)
          obtain rfl : i = n := by omega
          rw [HBE.out]
          generalize bs (bodyL pack m) = X at HRS HEN HB1
          generalize bs (shaL (bodyL pack m)) = Y at HRS HEN HB2
          have x1 := HB1.out
          have y1 := HB2.out
          have x2 : (X.size : Int) ≤ 100000 := by omega
          have y2 : (Y.size : Int) = 32 := by omega
          clear hbl
          go_wp2_with (first | (go_at_call 14; refine (HRS.out _).mono ?_; rintro e w1 ⟨rfl, hb1⟩; have B1 := hideIt (below2 HBO2.out hb1); clear hb1))
          go_ret
          exact ⟨by rw [← HEN.out]; rfl, B1.out⟩
end Go.Proofs.YtllpfpbpdgpnkaaDoor.Ix
