/- A commit's body, walked. -/
import Derived.Test.YtmjffngpaoaflaaGreatDoorOd
namespace Go.Proofs.YtmjffngpaoaflaaGreatDoor
namespace Ob
open Go.RowKit Go.Shelf
def parentW : List UInt8 := [112, 97, 114, 101, 110, 116]
def authorW : List UInt8 := [97, 117, 116, 104, 111, 114]
def timeW : List UInt8 := [116, 105, 109, 101]
def parsL (ps : List ByteArray) : List UInt8 := (ps.map fun p => lineL parentW (Cb.Cd.hexL p.data.toList)).flatten
/-- A commit's body. -/
def putC (c : Cm) : List UInt8 := lineL treeW (Cb.Cd.hexL c.tr.data.toList) ++ (parsL c.ps ++ (lineL authorW c.au.data.toList ++ (lineL timeW (Lib.decDigits c.tm) ++ 10 :: c.tx.data.toList)))
def putCR (c : Cm) : List UInt8 × Int := if comE c = 0 then (putC c, 0) else ([], comE c)
theorem comE_ok {c : Cm} (h : comE c = 0) : c.ps.length ≤ 4 ∧ c.tr.size = 32 ∧ parB c.ps = true ∧ autB c.au = true ∧ c.tx.size ≤ 4096 := by
  unfold comE at h
  by_cases hk : 4 < c.ps.length
  · rw [if_pos hk] at h; omega
  · rw [if_neg hk] at h
    by_cases hx : comOk c = true
    · unfold comOk at hx
      simp only [Bool.and_eq_true, idB, textB, decide_eq_true_eq] at hx
      exact ⟨by omega, hx.1.1.1, hx.1.1.2, hx.1.2, hx.2.1⟩
    · rw [if_neg hx] at h; omega
theorem par_id {ps : List ByteArray} (h : parB ps = true) {i : Nat} {y : ByteArray} (hy : ps[i]? = some y) : y.size = 32 := by
  have hl : i < ps.length := (List.getElem?_eq_some_iff.1 hy).1
  have h1 := parF_le ps (i + 1) ps.length hl h
  rw [parF_succ ps i y hy] at h1
  simp only [Bool.and_eq_true, idB, decide_eq_true_eq] at h1
  exact h1.2.1
theorem parsL_take (ps : List ByteArray) (i : Nat) (y : ByteArray) (h : ps[i]? = some y) : parsL (ps.take (i + 1)) = parsL (ps.take i) ++ lineL parentW (Cb.Cd.hexL y.data.toList) := by
  unfold parsL
  rw [List.take_add_one, h]
  simp
theorem pars_len {ps : List ByteArray} (h : parB ps = true) : ∀ i, i ≤ ps.length → (parsL (ps.take i)).length ≤ 72 * i := by
  intro i
  induction i with
  | zero => intro _; simp [parsL]
  | succ i ih =>
    intro hi
    obtain ⟨y, hy⟩ : ∃ y, ps[i]? = some y := ⟨ps[i]'(by omega), by simp⟩
    rw [parsL_take ps i y hy]
    have h1 := ih (by omega)
    have h2 := par_id h hy
    have h3 : y.data.toList.length = 32 := by rw [str_len]; exact h2
    simp only [lineL, List.length_append, List.length_cons, List.length_nil, hexL_len, h3]
    simp [parentW]
    omega
theorem nd_dec64 (n : Nat) (h : n < 18446744073709551616) : (Lib.decDigits n).length ≤ 20 := by
  by_cases h1 : 1 ≤ n
  · rw [Lib.decDigits_length]
    exact Cb.nd20 n h1 h
  · obtain rfl : n = 0 := by omega
    rw [Lib.decDigits_one (by omega)]
    simp
theorem cc_keep {N : Nat} {T : TypeId} {c : Cm} {w0 w w1 : World} (hb : Below w.heap.size w w1) (h : w.cell? ⟨N, 2, none⟩ = some (.string c.au) ∧ w.cell? ⟨N, 3, none⟩ = some (.int .u64 (c.tm : Int)) ∧ CBox w N T c ∧ Below w0.heap.size w0 w) :
    w1.cell? ⟨N, 2, none⟩ = some (.string c.au) ∧ w1.cell? ⟨N, 3, none⟩ = some (.int .u64 (c.tm : Int)) ∧ CBox w1 N T c ∧ Below w0.heap.size w0 w1 :=
  ⟨(h.2.2.1.below hb).c2, (h.2.2.1.below hb).c3, h.2.2.1.below hb, below2 h.2.2.2 hb⟩
theorem hex_c2 (s : ByteArray) (w : World) (h : s.size = 32) : Calls Tryz.prog 38 #[.string s] w fun e w' => e = .returned (.string (bs (Cb.Cd.hexL s.data.toList))) ∧ Below w.heap.size w w' := hex_c s w (by omega)
theorem line_w (wd t : List UInt8) (w : World) (ha : wd.length ≤ 1000000) (hb : t.length ≤ 1000000) :
    Calls Tryz.prog 37 #[.string (bs wd), .string (bs t)] w fun e w' => e = .returned (.string (bs (lineL wd t))) ∧ w = w' := (line_c wd t w ha hb).mono fun _ _ h => ⟨h.1, h.2.symm⟩
set_option maxHeartbeats 1600000 in
set_option maxRecDepth 100000 in
theorem putCommit_any (c : Cm) (w : World) (hrow : SRow w c.pv c.ps) (h2 : c.au.size ≤ 1000000) (h3 : c.tx.size ≤ 1000000) (h4 : c.tm < 18446744073709551616) (hk : Ok w) :
    Calls Tryz.prog 15 #[cmV c] w fun e w' => e = .returned (.tuple #[.string (bs (putCR c).1), .int .i64 (putCR c).2]) ∧ Below w.heap.size w w' := by
  have HNB := hideIt (CBox.new w 42 c)
  have HAB := hideIt (new_below w (cmO c 42))
  have HC := hideIt (fun w h hm => checkCommit_any c w h h2 h3 hm)
  have HOK := hideIt hk
  have HRW := hideIt hrow
  by_cases hz : comE c = 0
  · have HP : Hid (putCR c = (putC c, 0)) := hideIt (by rw [putCR, if_pos hz])
    obtain ⟨hpl, htr, hpar, hau, htx⟩ := comE_ok hz
    rw [hz] at HC
    have HTL : Hid (∀ w, Calls Tryz.prog 37 #[.string ⟨#[116, 114, 101, 101]⟩, .string (bs (Cb.Cd.hexL c.tr.data.toList))] w fun e w' => e = .returned (.string (bs (lineL treeW (Cb.Cd.hexL c.tr.data.toList)))) ∧ w = w') := hideIt (fun w => line_w treeW _ w (by decide) (by rw [hexL_len, str_len]; omega))
    have HX := hideIt (fun w => hex_c2 c.tr w htr)
    obtain ⟨tr, pv, ps, au, tm, tx⟩ := c
    simp only at *
    have hrow2 := hrow
    obtain ⟨a, cc, hpv, hlc, hcm, hcells⟩ := hrow
    subst hpv
    unfold cmV at HC ⊢
    unfold cmO at HAB
    simp only at HC HAB ⊢
    obtain ⟨n, hn⟩ : ∃ n, ps.length = n := ⟨_, rfl⟩
    have HN := hideIt hn
    have HCE := hideIt hcells
    rw [hn] at HC HAB HRW HNB HP hpl hlc ⊢
    clear hcells hk h2 hrow2 hn
    go_enter Tryz.func15, Tryz.ntmps15
    go_wp2_with (first | (go_at_call 16; refine (HC.out _ (HRW.out.below HAB.out) (HOK.out.below HAB.out).max).mono ?_; rintro e w1 ⟨rfl, hb1⟩; have HN1 := hideIt (HNB.out.below hb1); have c0 := HN1.out.c0) | (go_at_call 38; refine (HX.out _).mono ?_; rintro e w2 ⟨rfl, hb2⟩; have HN2 := hideIt (HN1.out.below hb2); have c1 := HN2.out.c1) | (go_at_call 37; refine (HTL.out _).mono ?_; rintro e w3 ⟨rfl, rfl⟩))
    have HB2 := hideIt (below2 (below2 HAB.out hb1) hb2)
    obtain ⟨P0, hP0⟩ : ∃ P0, lineL treeW (Cb.Cd.hexL tr.data.toList) = P0 := ⟨_, rfl⟩
    have hP0l : P0.length ≤ 80 := by rw [← hP0]; simp only [lineL, List.length_append, List.length_cons, List.length_nil, hexL_len, str_len]; simp [treeW]; omega
    have HP0 := hideIt hP0
    rw [hP0]
    clear c0 c1 HTL HX HC hb1 hb2 hP0 HN1
    go_loopw [5, 20] (fun s t wr => ∃ i : Nat, i ≤ n ∧ t = .int .i64 i ∧ s = .string (bs (P0 ++ parsL (ps.take i))) ∧ CBox wr w.heap.size 42 ⟨tr, .slice a n cc, ps, au, tm, tx⟩ ∧ Below w.heap.size w wr) (fun _ t _ => n - (intOf t).toNat)
    case atStart => exact ⟨0, by omega, rfl, by simp [parsL], HN2.out, HB2.out⟩
    case round =>
      obtain ⟨i, hi, rfl, rfl, hbox, hbw⟩ := hrel
      have HBX := hideIt hbox
      have HBW := hideIt hbw
      have hpl2 := pars_len hpar i (by rw [HN.out]; exact hi)
      by_cases hlt : i < n
      · have i1 : decide ((i : Int) < (n : Int)) = true := decide_eq_true (by omega)
        have i2 : (i : Int) < (n : Int) := by omega
        obtain ⟨b, o, rfl, hcells⟩ := HCE.out (by rw [HN.out]; omega)
        obtain ⟨y, hyi⟩ : ∃ y, ps[i]? = some y := ⟨ps[i]'(by rw [HN.out]; exact hlt), by simp⟩
        have c0 := (hcells.below hbw).2 i y hyi
        have hy32 := par_id hpar hyi
        have HY := hideIt (fun w => hex_c2 y w hy32)
        have hylen : y.data.toList.length = 32 := by rw [str_len]; exact hy32
        have HL : Hid (∀ w, Calls Tryz.prog 37 #[.string ⟨#[112, 97, 114, 101, 110, 116]⟩, .string (bs (Cb.Cd.hexL y.data.toList))] w fun e w' => e = .returned (.string (bs (lineL parentW (Cb.Cd.hexL y.data.toList)))) ∧ w = w') := hideIt (fun w => line_w parentW _ w (by decide) (by rw [hexL_len, hylen]; omega))
        have HS : Hid (bs (P0 ++ parsL (ps.take i)) ++ bs (lineL parentW (Cb.Cd.hexL y.data.toList)) = bs (P0 ++ parsL (ps.take (i + 1)))) := hideIt (by rw [bs_append, parsL_take ps i y hyi, List.append_assoc])
        have s1 : (bs (P0 ++ parsL (ps.take i))).size ≤ 1000 := by rw [bs_size, List.length_append]; omega
        have s2 : (bs (lineL parentW (Cb.Cd.hexL y.data.toList))).size ≤ 100 := by rw [bs_size]; simp only [lineL, List.length_append, List.length_cons, List.length_nil, hexL_len, hylen]; simp [parentW]
        obtain ⟨A, hA⟩ : ∃ A, bs (P0 ++ parsL (ps.take i)) = A := ⟨_, rfl⟩
        obtain ⟨B, hB⟩ : ∃ B, bs (lineL parentW (Cb.Cd.hexL y.data.toList)) = B := ⟨_, rfl⟩
        rw [hA] at HS s1 ⊢
        rw [hB] at HL HS s2
        have t1 : ¬ 9223372036854775807 < A.size + B.size := by omega
        clear hcells hyi hbox hbw hA hB hy32 hylen
        go_wp2_with (first | (go_at_call 38; refine (HY.out _).mono ?_; rintro e w4 ⟨rfl, hb4⟩) | (go_at_call 37; refine (HL.out _).mono ?_; rintro e w5 ⟨rfl, rfl⟩))
        go_roundw
        case rel => exact ⟨i + 1, by omega, by go_num, by rw [← HS.out], HBX.out.below hb4, below2 HBW.out hb4⟩
        case measure => simp [intOf]; omega
      · have i1 : decide ((i : Int) < (n : Int)) = false := decide_eq_false (by omega)
        obtain rfl : i = n := by omega
        have htk : ps.take i = ps := List.take_of_length_le (by rw [HN.out]; omega)
        rw [htk] at hpl2 ⊢
        have hau64 := aut_len hau
        have HLA : Hid (∀ w, Calls Tryz.prog 37 #[.string ⟨#[97, 117, 116, 104, 111, 114]⟩, .string au] w fun e w' => e = .returned (.string (bs (lineL authorW au.data.toList))) ∧ w = w') := hideIt (fun w => by
          have := line_w authorW au.data.toList w (by decide) (by rw [str_len]; omega)
          rw [bs_data] at this
          exact this)
        have hnd : (Lib.decDigits tm).length ≤ 20 := nd_dec64 tm h4
        have HLT : Hid (∀ w, Calls Tryz.prog 37 #[.string ⟨#[116, 105, 109, 101]⟩, .string (bs (Lib.decDigits tm))] w fun e w' => e = .returned (.string (bs (lineL timeW (Lib.decDigits tm)))) ∧ w = w') := hideIt (fun w => line_w timeW _ w (by decide) (by omega))
        have HD := hideIt (fun w h => dec_c tm w h4 h)
        have HQ : Hid (bs (P0 ++ parsL ps) ++ (bs (lineL authorW au.data.toList) ++ bs (lineL timeW (Lib.decDigits tm))) ++ ⟨#[10]⟩ ++ tx = bs (putC ⟨tr, .slice a i cc, ps, au, tm, tx⟩)) := hideIt (by
          obtain ⟨l, rfl⟩ := of_bs tx
          rw [putC, show (⟨#[10]⟩ : ByteArray) = bs [10] from rfl, bs_append, bs_append, bs_append, bs_append]
          simp only [bs_list, HP0.out]
          simp)
        have s1 : (bs (P0 ++ parsL ps)).size ≤ 1000 := by rw [bs_size, List.length_append]; omega
        have s2 : (bs (lineL authorW au.data.toList)).size ≤ 100 := by rw [bs_size]; simp only [lineL, List.length_append, List.length_cons, List.length_nil, str_len]; simp [authorW]; omega
        have s3 : (bs (lineL timeW (Lib.decDigits tm))).size ≤ 100 := by rw [bs_size]; simp only [lineL, List.length_append, List.length_cons, List.length_nil]; simp [timeW]; omega
        obtain ⟨A, hA⟩ : ∃ A, bs (P0 ++ parsL ps) = A := ⟨_, rfl⟩
        obtain ⟨B, hB⟩ : ∃ B, bs (lineL authorW au.data.toList) = B := ⟨_, rfl⟩
        obtain ⟨C, hC⟩ : ∃ C, bs (lineL timeW (Lib.decDigits tm)) = C := ⟨_, rfl⟩
        obtain ⟨D, hD⟩ : ∃ D, bs (Lib.decDigits tm) = D := ⟨_, rfl⟩
        rw [hA] at HQ s1 ⊢
        rw [hB] at HLA HQ s2
        rw [hC] at HLT HQ s3
        rw [hD] at HLT HD
        have t0 : ¬ 9223372036854775807 < B.size + C.size := by omega
        have t1 : ¬ 9223372036854775807 < A.size + (B.size + C.size) := by omega
        have t2 : ¬ 9223372036854775807 < A.size + (B.size + C.size) + 1 := by omega
        have t3 : ¬ 9223372036854775807 < A.size + (B.size + C.size) + 1 + tx.size := by omega
        clear hA hB hC hD hbox hbw htk
        have HS : Hid (wr.drew.cell? ⟨w.heap.size, 2, none⟩ = some (.string au) ∧ wr.drew.cell? ⟨w.heap.size, 3, none⟩ = some (.int .u64 (tm : Int)) ∧ CBox wr.drew w.heap.size 42 ⟨tr, .slice a i cc, ps, au, tm, tx⟩ ∧ Below w.heap.size w wr.drew) := hideIt ⟨HBX.out.c2, HBX.out.c3, ⟨by rw [heap_drew]; exact HBX.out.blk⟩, HBW.out.drew⟩
        go_wp2_with fail
        go_region_held3 (fun w' => w'.cell? ⟨w.heap.size, 2, none⟩ = some (.string au) ∧ w'.cell? ⟨w.heap.size, 3, none⟩ = some (.int .u64 (tm : Int)) ∧ CBox w' w.heap.size 42 ⟨tr, .slice a i cc, ps, au, tm, tx⟩ ∧ Below w.heap.size w w') (first | (exact HS.out) | assumption | (exact cc_keep (c := ⟨tr, .slice a i cc, ps, au, tm, tx⟩) (w0 := w) hb5 (by assumption)))
          (first | (go_at_call 39; refine (HD.out _ (HOK.out.below (‹_ ∧ _ ∧ CBox _ _ _ _ ∧ Below _ _ _›).2.2.2)).mono ?_; rintro e w5 ⟨rfl, hb5⟩) | (go_at_call_of 37 (Value.string au); refine (HLA.out _).mono ?_; rintro e w6 ⟨rfl, rfl⟩) | (go_at_call_of 37 (Value.string D); refine (HLT.out _).mono ?_; rintro e w6 ⟨rfl, rfl⟩))
        have HF := hideIt (‹_ ∧ _ ∧ CBox w5 _ _ _ ∧ Below _ _ w5›)
        have c4 := HF.out.2.2.1.c4
        simp only at c4
        go_wp2
        go_ret2
        exact ⟨by rw [HP.out]; show _ = Ending.returned (.tuple #[.string (bs (putC _)), .int .i64 0]); rw [← HQ.out]; rfl, HF.out.2.2.2⟩
  · have HP : Hid (putCR c = ([], comE c)) := hideIt (by rw [putCR, if_neg hz])
    rw [HP.out]
    simp only
    obtain ⟨z, hzz⟩ : ∃ z, comE c = z := ⟨_, rfl⟩
    rw [hzz] at HC hz ⊢
    clear HP hzz HNB
    obtain ⟨tr, pv, ps, au, tm, tx⟩ := c
    obtain ⟨a, cc, hpv, -, -, -⟩ := hrow
    simp only at hpv
    subst hpv
    unfold cmV at HC ⊢
    unfold cmO at HAB
    simp only at HC HAB HRW ⊢
    clear hk h2 h3
    go_enter Tryz.func15, Tryz.ntmps15
    go_wp2_with (first | (go_at_call 16; refine (HC.out _ (HRW.out.below HAB.out) (HOK.out.below HAB.out).max).mono ?_; rintro e w1 ⟨rfl, hb1⟩))
    go_ret2
    exact ⟨rfl, below2 HAB.out hb1⟩
end Ob
end Go.Proofs.YtmjffngpaoaflaaGreatDoor
