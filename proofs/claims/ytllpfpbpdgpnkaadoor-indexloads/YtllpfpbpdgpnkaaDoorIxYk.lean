/- Indexes: the spots that bytes tell: walked. -/
import Derived.Test.YtllpfpbpdgpnkaaDoorIxYf
import Derived.Test.YtllpfpbpdgpnkaaDoorIxYe
namespace Go.Proofs.YtllpfpbpdgpnkaaDoor.Ix
open Cb Go.RowKit Go.Shelf
theorem drop_bs (L : List UInt8) (k : Nat) : (bs L).extract k (bs L).size = bs (L.drop k) := by
  apply ByteArray.ext
  apply Array.toList_inj.1
  simp [bs, List.extract_eq_take_drop, ByteArray.size]
  exact List.take_of_length_le (by simp)
theorem ext_bs (L : List UInt8) (a n : Nat) : (bs L).extract a (a + n) = bs ((L.drop a).take n) := by
  apply ByteArray.ext
  apply Array.toList_inj.1
  simp [bs, List.extract_eq_take_drop]
theorem take_bs (L : List UInt8) (k : Nat) : (bs L).extract 0 k = bs (L.take k) := by
  have := ext_bs L 0 k
  rw [Nat.zero_add] at this
  rw [this, List.drop_zero]
/-- Does a text begin with another one? -/
def pre (a p : ByteArray) : Bool := decide (p.size ≤ a.size) && ((a.extract 0 p.size).toList == p.toList)
set_option maxHeartbeats 400000 in
theorem slpre_any (a p : ByteArray) (w : World) :
    Calls Tryd.prog 45 #[.string a, .string p] w fun e w' => e = .returned (.bool (pre a p)) ∧ w' = w := by
  obtain ⟨n, hn⟩ : ∃ n, a.size = n := ⟨_, rfl⟩
  obtain ⟨m, hm⟩ : ∃ m, p.size = m := ⟨_, rfl⟩
  have hn' : (a.size : Int) = (n : Int) := by rw [hn]
  have hm' : (p.size : Int) = (m : Int) := by rw [hm]
  by_cases h : m ≤ n
  · have c1 : (m : Int) ≤ (n : Int) := by omega
    have c2 : decide ((m : Int) ≤ (n : Int)) = true := by simpa using h
    have HP : Hid (pre a p = ((a.extract 0 m).toList == p.toList)) := hideIt (by rw [pre, hm, hn]; simp [h])
    obtain ⟨x, hx⟩ : ∃ x, ((a.extract 0 m).toList == p.toList) = x := ⟨_, rfl⟩
    rw [hx] at HP
    have b0 : (0 : Int) ≤ (m : Int) := by omega
    cases x
    all_goals
      go_enter Tryd.func45, Tryd.ntmps45
      go_wp2
      go_ret
      exact ⟨by rw [HP.out]; try rfl, rfl⟩
  · have c1 : ¬ (m : Int) ≤ (n : Int) := by omega
    have c2 : decide ((m : Int) ≤ (n : Int)) = false := by simp; omega
    have HP : Hid (pre a p = false) := hideIt (by rw [pre, hm, hn]; simp [h])
    go_enter Tryd.func45, Tryd.ntmps45
    go_wp2
    go_ret
    exact ⟨by rw [HP.out]; try rfl, rfl⟩
theorem hasPrefix_any (a p : ByteArray) (w : World) :
    Calls Tryd.prog 31 #[.string a, .string p] w fun e w' => e = .returned (.bool (pre a p)) ∧ w' = w := by
  have H := hideIt (fun w => slpre_any a p w)
  go_enter Tryd.func31, Tryd.ntmps31
  go_wp2_with (first | (go_at_call 45; refine (H.out _).mono ?_; rintro e wx ⟨rfl, hwx⟩; obtain rfl := hwx.symm))
  go_ret
  exact ⟨rfl, rfl⟩
theorem pre_line (S : List UInt8) : pre (bs S) ⟨#[112, 111, 108, 108, 97, 114, 100, 32, 105, 110, 100, 101, 120, 10]⟩ = decide (S.take 14 = lineL) := by
  have e1 : (⟨#[112, 111, 108, 108, 97, 114, 100, 32, 105, 110, 100, 101, 120, 10]⟩ : ByteArray).size = 14 := rfl
  have e2 : (⟨#[112, 111, 108, 108, 97, 114, 100, 32, 105, 110, 100, 101, 120, 10]⟩ : ByteArray).toList = lineL := by rw [ByteArray.toList_eq]; rfl
  rw [pre, e1, e2, take_bs, ByteArray.toList_eq, bs_list, bs_size]
  by_cases h : S.take 14 = lineL
  · have hl : 14 ≤ S.length := by
      have := congrArg List.length h
      rw [List.length_take] at this
      have h2 : lineL.length = 14 := rfl
      omega
    simp [h, hl]
  · rw [decide_eq_false h, Bool.and_eq_false_iff]
    exact .inr (beq_eq_false_iff_ne.2 h)
theorem mid_bs (L : List UInt8) (a b : Nat) : (bs L).extract a b = bs ((L.drop a).take (b - a)) := by
  apply bytes_ext
  rw [bs_list]
  simp [bs, ByteArray.data_extract]
set_option maxHeartbeats 1600000 in
set_option maxRecDepth 100000 in
theorem readSpots_any (L : List UInt8) (w : World) (hL : L.length ≤ 75000) :
    Calls Tryd.prog 32 #[.string (bs L)] w fun e w' => RowTo w (rdS L (L.length / 36)) e w' := by
  obtain ⟨i0, hi0, hz0, hz1, hz2⟩ := info_parts infoI
  have HT : Hid (∀ e w', RowTo w (rdS L (L.length / 36)) e w' ↔ ∃ v, e = .returned v ∧ SRow w' v (rdS L (L.length / 36)) ∧ Below w.heap.size w w') := hideIt (fun _ _ => Iff.rfl)
  have hs : (bs L).size = L.length := bs_size L
  obtain ⟨n, hn⟩ : ∃ n, L.length / 36 = n := ⟨_, rfl⟩
  rw [hn] at HT ⊢
  obtain ⟨l, hl⟩ : ∃ l, rdS L n = l := ⟨_, rfl⟩
  have hln : l.length = n := by rw [← hl, rdS_len]
  have HAT : Hid (∀ i, i < n → l[i]? = some ⟨bs ((L.drop (i * 36)).take 32), (numR ((L.drop (i * 36 + 32)).take 4) : Int)⟩) := hideIt (fun i hi => by rw [← hl, rdS_at L n i hi]; rfl)
  rw [hl] at HT ⊢
  have HPU := hideIt (fun (W : World) (i : Nat) (x : Sp) (h1 : RowAt W w.heap.size (rowS l i)) (h2 : l[i]? = some x) => RowAt.put h1 h2)
  have HRA := hideIt (rowS_at l)
  have HEN := hideIt (rowS_end l)
  have HMK : Hid (RowAt (w.alloc (.cells (madeCells #[.string ⟨#[]⟩, .int .i64 0] (n * 2)) 38)) w.heap.size (rowS l 0)) := hideIt (by
    unfold RowAt
    rw [made_spots, rowS, hln]
    simp only [List.take_zero, List.nil_append, Nat.sub_zero]
    exact alloc_at rfl)
  have HFI : Hid (∀ W, RowAt W w.heap.size l → SRow W (.slice (some ⟨w.heap.size, 0, none⟩) n n) l) := hideIt (fun W hW => by
    refine ⟨_, n, by rw [hln], by omega, ⟨by unfold maxLen; omega, fun h => by cases h⟩, fun _ => ⟨_, _, rfl, block_lt hW, fun i x hx => ?_⟩⟩
    obtain ⟨a, b, _, _⟩ := hW.cell hx
    rw [Nat.zero_add]
    exact ⟨a, b⟩)
  rw [hln] at HRA HEN
  have HMB := hideIt (mid_bs L)
  have HM2 := hideIt (fun M => take_bs M)
  have HM3 := hideIt (fun M => drop_bs M)
  have HBZ := hideIt bs_size
  have HRN := hideIt readnum_any
  have hmk := run_make (P := Tryd.prog) w 22 38 i0 (.agg #[.string ⟨#[]⟩, .int .i64 0]) Tryd.underlying22 hi0 hz0 .i64 .i64 (n : Int) (n : Int) (by omega) (by omega) (by rw [hz2]; omega) (by omega)
  rw [hz1] at hmk
  simp only [Int.toNat_natCast] at hmk
  obtain ⟨W, hW⟩ : ∃ W, w.alloc (.cells (madeCells #[.string ⟨#[]⟩, .int .i64 0] (n * 2)) 38) = W := ⟨_, rfl⟩
  have hmk2 : (Instr.makeSlice 22 (.int .i64 (n : Int)) (.int .i64 (n : Int))).run Tryd.prog w = .ok (.slice (some ⟨w.heap.size, 0, none⟩) n n) W := by rw [← hW]; exact hmk
  have HBW : Hid (Below w.heap.size w W) := hideIt (by rw [← hW]; exact (Below.refl _ _).alloc (Nat.le_refl _) _)
  rw [hW] at HMK
  obtain ⟨N, hN⟩ : ∃ N, L.length = N := ⟨_, rfl⟩
  have HLN := hideIt hN
  rw [hN] at hs hL hn
  have n36 : n * 36 ≤ N := by omega
  have d1 : (N : Int) / 36 = (n : Int) := by omega
  obtain ⟨S, hS⟩ : ∃ S, bs L = S := ⟨_, rfl⟩
  rw [hS] at hs HMB ⊢
  have s1 : (S.size : Int) = (N : Int) := by omega
  have nI : (n : Int) ≤ 75000 := by omega
  have NI : (N : Int) ≤ 75000 := by omega
  clear hmk hW hS hl hN hn
  go_enter Tryd.func32, Tryd.ntmps32
  go_wp2
  go_loopw [12] (fun t12 wr => ∃ i : Nat, i ≤ n ∧ t12 = .int .i64 (i : Int) ∧ RowAt wr w.heap.size (rowS l i) ∧ Below w.heap.size w wr) (fun t12 _ => n - (intOf t12).toNat)
  case atStart => exact ⟨0, by omega, rfl, HMK.out, HBW.out⟩
  case round =>
    obtain ⟨i, hi, rfl, hr, hb⟩ := hrel
    have HB := hideIt hb
    by_cases hlt : i < n
    · have i1 : (i : Int) < (n : Int) := by omega
      have i2 : decide ((i : Int) < (n : Int)) = true := decide_eq_true i1
      have hx := HAT.out i hlt
      have hPU := hideIt (fun W' h => HPU.out W' i _ h hx)
      obtain ⟨c0, c1, f0, f1⟩ := hr.cell (HRA.out i hlt)
      obtain ⟨a, ha⟩ : ∃ a, i * 36 = a := ⟨_, rfl⟩
      obtain ⟨b, hb2⟩ : ∃ b, (i + 1) * 36 = b := ⟨_, rfl⟩
      have a1 : (i : Int) * 36 = (a : Int) := by omega
      obtain ⟨j, hj⟩ : ∃ j, i + 1 = j := ⟨_, rfl⟩
      have j1 : (i : Int) + 1 = (j : Int) := by omega
      have b1 : (j : Int) * 36 = (b : Int) := by omega
      have ab : (a : Int) ≤ (b : Int) := by omega
      have bN : (b : Int) ≤ (N : Int) := by omega
      have hone := HMB.out a b
      have hol : ((L.drop a).take (b - a)).length = 36 := by rw [List.length_take, List.length_drop, HLN.out]; omega
      obtain ⟨M, hM⟩ : ∃ M, (L.drop a).take (b - a) = M := ⟨_, rfl⟩
      have h1 := HM2.out M 32
      have h2 := HM3.out M 32
      have hosz := HBZ.out M
      rw [hM] at hone hol
      have e1 : M.take 32 = (L.drop a).take 32 := by rw [← hM, List.take_take]; congr 1; omega
      have e2 : M.drop 32 = (L.drop (a + 32)).take 4 := by rw [← hM, List.drop_take, List.drop_drop, show b - a - 32 = 4 by omega]
      have e3 : (M.drop 32).length = 4 := by rw [List.length_drop, hol]
      rw [hol] at hosz
      rw [hosz] at h2
      have HR1 := hideIt (fun w => HRN.out (M.drop 32) w (by omega))
      rw [ha, ← e1, ← e2] at hPU
      obtain ⟨O, hO⟩ : ∃ O, bs M = O := ⟨_, rfl⟩
      rw [hO] at hone h1 h2 hosz
      generalize bs (M.take 32) = X at hPU h1
      generalize bs (M.drop 32) = Y at h2 HR1
      generalize numR (M.drop 32) = k at hPU HR1
      have o1 : (O.size : Int) = 36 := by omega
      have HRW := hideIt hr
      have HJ := hideIt hj
      clear hr hx hM hO hol e1 e2 e3 hj hb2 ha hb
      go_wp2
      go_region_with (go_at_call 46; refine (HR1.out _).mono ?_; rintro e wx ⟨rfl, hwx⟩; obtain rfl := hwx.symm)
      go_wp2
      go_roundw
      case rel => exact ⟨i + 1, by omega, by first | go_num | (rw [HJ.out]; rfl) | (rw [HJ.out]; go_num), hPU.out _ HRW.out, ((HB.out.setCell (p := ⟨w.heap.size, i * 2, none⟩) (Nat.le_refl _) _).setCell (p := ⟨w.heap.size, i * 2 + 1, none⟩) (Nat.le_refl _) _).drew⟩
      case measure => have := HJ.out; simp [intOf]; omega
    · have i2 : decide ((i : Int) < (n : Int)) = false := decide_eq_false (by omega)
      obtain rfl : i = n := by omega
      rw [HEN.out] at hr
      have HS1 := hideIt (HFI.out wr hr)
      clear hr hb
      go_wp2
      go_ret
      exact (HT.out _ _).2 ⟨_, rfl, HS1.out, HB.out⟩
end Go.Proofs.YtllpfpbpdgpnkaaDoor.Ix
