/- What is made is read again; two commits held against each other, walked. -/
import Derived.Test.YtmjffngpaoaflaaGreatDoorOk
namespace Go.Proofs.YtmjffngpaoaflaaGreatDoor
namespace Ob
open Go.RowKit Go.Shelf
theorem hasW_pre (wd t R : List UInt8) : hasW wd (lineL wd t ++ R) = true := by
  have : lineL wd t ++ R = wd ++ 32 :: (t ++ 10 :: R) := by simp [lineL]
  rw [this]
  exact hasW_line wd _
theorem gPs_mk (R : List UInt8) (hR : hasW parentW R = false) : ∀ (ps : List ByteArray) (f : Nat), (∀ y ∈ ps, y.size = 32) → (parsL ps ++ R).length ≤ f → gPs f (parsL ps ++ R) = (ps, R, true)
  | [], f, _, _ => by
    have : parsL [] ++ R = R := rfl
    rw [this, gPs_end f R hR]
  | p :: ps, f, hall, hf => by
    have e : parsL (p :: ps) ++ R = lineL parentW (Cb.Cd.hexL p.data.toList) ++ (parsL ps ++ R) := by simp [parsL]
    have w1 : (10 : UInt8) ∉ parentW := by decide
    have n1 := hex_no10 p.data.toList
    rw [e] at hf ⊢
    obtain ⟨g, hg, hs⟩ := gPs_step f _ hf (hasW_pre parentW _ _)
    rw [hs, tkR_line parentW _ _ w1 n1, tkT_line parentW _ _ w1 n1, tkO_line parentW _ _ w1 n1, (unh_hex p).1, id_hex p (hall p (by simp))]
    rw [tkR_line parentW _ _ w1 n1] at hg
    rw [gPs_mk R hR ps g (fun y hy => hall y (by simp [hy])) hg]
    rfl
theorem dec_no10 (n : Nat) : (10 : UInt8) ∉ Lib.decDigits n := dec_no 10 (by decide) n
/-- What is made is read again. -/
theorem get_putC {c : Cm} (h : comE c = 0) (h4 : c.tm < 18446744073709551616) : gCz (putC c) = 0 ∧ gCm (putC c) = { c with pv := .slice none 0 0 } := by
  obtain ⟨hpl, htr, hpar, hau, htx⟩ := comE_ok h
  have n1 := hex_no10 c.tr.data.toList
  have n2 := aut_no10 hau
  have n3 := dec_no10 c.tm
  have w1 : (10 : UInt8) ∉ treeW := by decide
  have w2 : (10 : UInt8) ∉ authorW := by decide
  have w3 : (10 : UInt8) ∉ timeW := by decide
  obtain ⟨R, hRd⟩ : ∃ R, lineL authorW c.au.data.toList ++ (lineL timeW (Lib.decDigits c.tm) ++ 10 :: c.tx.data.toList) = R := ⟨_, rfl⟩
  have hW : hasW parentW R = false := by rw [← hRd]; rfl
  have e0 : putC c = lineL treeW (Cb.Cd.hexL c.tr.data.toList) ++ (parsL c.ps ++ R) := by rw [putC, hRd]
  have r1 : tkR (putC c) = parsL c.ps ++ R := by rw [e0]; exact tkR_line treeW _ _ w1 n1
  have o1 : tkO treeW (putC c) = true := by rw [e0]; exact tkO_line treeW _ _ w1 n1
  have t1 : tkT treeW (putC c) = Cb.Cd.hexL c.tr.data.toList := by rw [e0]; exact tkT_line treeW _ _ w1 n1
  have g1 : gPs (tkR (putC c)).length (tkR (putC c)) = (c.ps, R, true) := by rw [r1]; exact gPs_mk R hW c.ps _ (fun y hy => by obtain ⟨i, hi⟩ := List.mem_iff_getElem?.1 hy; exact par_id hpar hi) (Nat.le_refl _)
  have r2 : tkR R = lineL timeW (Lib.decDigits c.tm) ++ 10 :: c.tx.data.toList := by rw [← hRd]; exact tkR_line authorW _ _ w2 n2
  have o2 : tkO authorW R = true := by rw [← hRd]; exact tkO_line authorW _ _ w2 n2
  have t2 : tkT authorW R = c.au.data.toList := by rw [← hRd]; exact tkT_line authorW _ _ w2 n2
  have r3 : tkR (tkR R) = 10 :: c.tx.data.toList := by rw [r2]; exact tkR_line timeW _ _ w3 n3
  have o3 : tkO timeW (tkR R) = true := by rw [r2]; exact tkO_line timeW _ _ w3 n3
  have t3 : tkT timeW (tkR R) = Lib.decDigits c.tm := by rw [r2]; exact tkT_line timeW _ _ w3 n3
  have hud : Cb.Dd.und (Lib.decDigits c.tm) = some c.tm := Cb.Dd.und_dec _ (by unfold Cb.Dd.M; omega)
  have x := tx_line c.tx.data.toList
  have hm : gCm (putC c) = { c with pv := .slice none 0 0 } := by
    unfold gCm undN
    rw [g1, t1, (unh_hex c.tr).1]
    simp only
    rw [t2, t3, r3, x.2, hud, bs_data, bs_data]
    rfl
  have ho : gCo (putC c) = true := by
    unfold gCo undO
    rw [g1, o1, t1, id_hex c.tr htr]
    simp only
    rw [o2, o3, t3, r3, x.1, hud]
    rfl
  refine ⟨?_, hm⟩
  rw [gCz, if_pos ho, hm]
  exact h
theorem putC_len {c : Cm} (h : comE c = 0) (h4 : c.tm < 18446744073709551616) : (putC c).length ≤ 20000 := by
  obtain ⟨hpl, htr, hpar, hau, htx⟩ := comE_ok h
  have e1 : c.tr.data.toList.length = 32 := by rw [str_len]; exact htr
  have e2 := pars_len hpar c.ps.length (Nat.le_refl _)
  rw [List.take_length] at e2
  have e3 := aut_len hau
  have e4 : c.au.data.toList.length = c.au.size := str_len _
  have e5 : c.tx.data.toList.length = c.tx.size := str_len _
  have e6 := nd_dec64 c.tm h4
  simp only [putC, lineL, List.length_append, List.length_cons, List.length_nil, hexL_len, e1, e4, e5]
  simp [treeW, authorW, timeW]
  omega
set_option maxHeartbeats 3200000 in
set_option maxRecDepth 100000 in
theorem same_any (tr au tx : ByteArray) (tm : Nat) (ps : List ByteArray) (v1 v2 : Value) (w : World) (h1 : SRow w v1 ps) (h2 : SRow w v2 ps) :
    Calls Tryz.prog 19 #[cmV ⟨tr, v1, ps, au, tm, tx⟩, cmV ⟨tr, v2, ps, au, tm, tx⟩] w fun e w' => e = .returned (.bool true) ∧ Below w.heap.size w w' := by
  obtain ⟨a1, k1, rfl, hlc1, hcm1, hcells1⟩ := h1
  obtain ⟨a2, k2, rfl, hlc2, hcm2, hcells2⟩ := h2
  obtain ⟨n, hn⟩ : ∃ n, ps.length = n := ⟨_, rfl⟩
  have HN := hideIt hn
  have HC1 := hideIt hcells1
  have HC2 := hideIt hcells2
  rw [hn] at hlc1 hlc2 ⊢
  have hm1 := hcm1.1
  have hm2 := hcm2.1
  unfold maxLen at hm1 hm2
  unfold cmV
  simp only
  obtain ⟨A, hA⟩ : ∃ A, cmO ⟨tr, .slice a1 n k1, ps, au, tm, tx⟩ 42 = A := ⟨_, rfl⟩
  obtain ⟨B, hB⟩ : ∃ B, cmO ⟨tr, .slice a2 n k2, ps, au, tm, tx⟩ 43 = B := ⟨_, rfl⟩
  have HB0 : Hid (Below w.heap.size w ((w.alloc A).alloc B)) := hideIt (below2 (new_below _ _) (new_below _ _))
  have HX1 : Hid (CBox ((w.alloc A).alloc B) w.heap.size 42 ⟨tr, .slice a1 n k1, ps, au, tm, tx⟩) := hideIt (CBox.below ⟨by rw [← hA]; exact Cb.alloc_at rfl⟩ (new_below _ _))
  have HX2 : Hid (CBox ((w.alloc A).alloc B) (w.heap.size + 1) 43 ⟨tr, .slice a2 n k2, ps, au, tm, tx⟩) := hideIt ⟨by rw [← hB]; exact Cb.alloc_at (by simp)⟩
  rw [← hA, ← hB] at HB0 HX1 HX2
  unfold cmO at HB0 HX1 HX2
  simp only at HB0 HX1 HX2
  clear hcells1 hcells2 hn hA hB hcm1 hcm2
  have e1 : (tr.toList == tr.toList) = true := by simp
  have e2 : (au.toList == au.toList) = true := by simp
  have e3 : (tx.toList == tx.toList) = true := by simp
  have x1 := HX1.out.c1
  have x2 := HX2.out.c1
  dsimp only at x1 x2
  go_enter Tryz.func19, Tryz.ntmps19
  go_wp2
  go_loopw [5] (fun t wr => ∃ i : Nat, i ≤ n ∧ t = .int .i64 i ∧ CBox wr w.heap.size 42 ⟨tr, .slice a1 n k1, ps, au, tm, tx⟩ ∧ CBox wr (w.heap.size + 1) 43 ⟨tr, .slice a2 n k2, ps, au, tm, tx⟩ ∧ Below w.heap.size w wr) (fun t _ => n - (intOf t).toNat)
  case atStart => exact ⟨0, by omega, rfl, HX1.out, HX2.out, HB0.out⟩
  case round =>
    clear x1 x2
    obtain ⟨i, hi, rfl, hb1, hb2, hbl⟩ := hrel
    have HB1 := hideIt hb1
    have HB2 := hideIt hb2
    have HBL := hideIt hbl
    have y1 := hb1.c1
    have y2 := hb2.c1
    dsimp only at y1 y2
    by_cases hlt : i < n
    · have i1 : decide ((i : Int) < (n : Int)) = true := decide_eq_true (by omega)
      have i2 : (i : Int) < (n : Int) := by omega
      obtain ⟨b1, o1, rfl, hcl1⟩ := HC1.out (by rw [HN.out]; omega)
      obtain ⟨b2, o2, rfl, hcl2⟩ := HC2.out (by rw [HN.out]; omega)
      obtain ⟨y, hyi⟩ : ∃ y, ps[i]? = some y := ⟨ps[i]'(by rw [HN.out]; exact hlt), by simp⟩
      have c1 := (hcl1.below hbl).2 i y hyi
      have c2 := (hcl2.below hbl).2 i y hyi
      have z1 : (y.toList == y.toList) = true := by simp
      have z2 : (y.toList != y.toList) = false := by simp
      clear hcl1 hcl2 hyi hb1 hb2 hbl
      go_wp2
      go_quiet (fail)
      go_wp2
      go_roundw
      case rel => exact ⟨i + 1, by omega, by go_num, ⟨HB1.out.blk⟩, ⟨HB2.out.blk⟩, below2 HBL.out (below_drewN _ _)⟩
      case measure => simp [intOf]; omega
    · have i1 : decide ((i : Int) < (n : Int)) = false := decide_eq_false (by omega)
      obtain rfl : i = n := by omega
      have p0 := hb1.c0
      have p2 := hb1.c2
      have p3 := hb1.c3
      have p4 := hb1.c4
      have q0 := hb2.c0
      have q2 := hb2.c2
      have q3 := hb2.c3
      have q4 := hb2.c4
      dsimp only at p0 p2 p3 p4 q0 q2 q3 q4
      clear hb1 hb2 hbl
      go_wp2
      go_ret
      exact ⟨rfl, HBL.out⟩
end Ob
end Go.Proofs.YtmjffngpaoaflaaGreatDoor
