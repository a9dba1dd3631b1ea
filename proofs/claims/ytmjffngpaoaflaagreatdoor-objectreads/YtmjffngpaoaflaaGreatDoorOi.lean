/- The document's body of a commit, walked. -/
import Derived.Test.YtmjffngpaoaflaaGreatDoorOf
namespace Go.Proofs.YtmjffngpaoaflaaGreatDoor
namespace Ob
open Go.RowKit Go.Shelf
theorem refhex_d (s : ByteArray) (w : World) (h : s.size = 32) : Calls Tryz.prog 49 #[.string s] w fun e w' => e = .returned (.string (bs (Cb.Cd.hexL s.data.toList))) ∧ Below w.heap.size w w' := Cb.refhex_any s w (by omega)
theorem refdec_d (u : Nat) (w : World) (h : u < 18446744073709551616) : Calls Tryz.prog 50 #[.int .u64 (u : Int)] w fun e w' => e = .returned (.string (bs (Lib.decDigits u))) ∧ Below w.heap.size w w' := Cb.refdec_any u w h
theorem cd_keep {N : Nat} {T : TypeId} {c : Cm} {w0 w w1 : World} (hb : Below w.heap.size w w1) (h : w.cell? ⟨N, 2, none⟩ = some (.string c.au) ∧ w.cell? ⟨N, 3, none⟩ = some (.int .u64 (c.tm : Int)) ∧ w.cell? ⟨N, 4, none⟩ = some (.string c.tx) ∧ CBox w N T c ∧ Below w0.heap.size w0 w) :
    w1.cell? ⟨N, 2, none⟩ = some (.string c.au) ∧ w1.cell? ⟨N, 3, none⟩ = some (.int .u64 (c.tm : Int)) ∧ w1.cell? ⟨N, 4, none⟩ = some (.string c.tx) ∧ CBox w1 N T c ∧ Below w0.heap.size w0 w1 :=
  ⟨(h.2.2.2.1.below hb).c2, (h.2.2.2.1.below hb).c3, (h.2.2.2.1.below hb).c4, h.2.2.2.1.below hb, below2 h.2.2.2.2 hb⟩
set_option maxHeartbeats 3200000 in
set_option maxRecDepth 100000 in
theorem refputCommit_any (c : Cm) (w : World) (hrow : SRow w c.pv c.ps) (hz : comE c = 0) (h4 : c.tm < 18446744073709551616) :
    Calls Tryz.prog 18 #[cmV c] w fun e w' => e = .returned (.string (bs (putC c))) ∧ Below w.heap.size w w' := by
  have HNB := hideIt (CBox.new w 43 c)
  have HAB := hideIt (new_below w (cmO c 43))
  obtain ⟨hpl, htr, hpar, hau, htx⟩ := comE_ok hz
  have HX := hideIt (fun w => refhex_d c.tr w htr)
  have HP0 : Hid (⟨#[116, 114, 101, 101, 32]⟩ ++ bs (Cb.Cd.hexL c.tr.data.toList) ++ ⟨#[10]⟩ = bs (lineL treeW (Cb.Cd.hexL c.tr.data.toList))) := hideIt (by
    rw [show (⟨#[116, 114, 101, 101, 32]⟩ : ByteArray) = bs (treeW ++ [32]) from rfl, show (⟨#[10]⟩ : ByteArray) = bs [10] from rfl, bs_append, bs_append]
    simp [lineL])
  have htl : c.tr.data.toList.length = 32 := by rw [str_len]; exact htr
  have hs1 : (bs (Cb.Cd.hexL c.tr.data.toList)).size ≤ 100 := by rw [bs_size, hexL_len]; omega
  have hP0l : (lineL treeW (Cb.Cd.hexL c.tr.data.toList)).length ≤ 80 := by simp only [lineL, List.length_append, List.length_cons, List.length_nil, hexL_len, htl]; simp [treeW]
  obtain ⟨X, hX⟩ : ∃ X, bs (Cb.Cd.hexL c.tr.data.toList) = X := ⟨_, rfl⟩
  have HPC : Hid (putC c = lineL treeW (Cb.Cd.hexL c.tr.data.toList) ++ (parsL c.ps ++ (lineL authorW c.au.data.toList ++ (lineL timeW (Lib.decDigits c.tm) ++ 10 :: c.tx.data.toList)))) := rfl
  obtain ⟨P0, hP0⟩ : ∃ P0, lineL treeW (Cb.Cd.hexL c.tr.data.toList) = P0 := ⟨_, rfl⟩
  rw [hX] at HX HP0 hs1
  rw [hP0] at HP0 hP0l HPC
  obtain ⟨tr, pv, ps, au, tm, tx⟩ := c
  simp only at *
  obtain ⟨a, cc, hpv, hlc, hcm, hcells⟩ := hrow
  subst hpv
  unfold cmV
  unfold cmO at HAB
  simp only at HAB ⊢
  obtain ⟨n, hn⟩ : ∃ n, ps.length = n := ⟨_, rfl⟩
  have HN := hideIt hn
  have HCE := hideIt hcells
  rw [hn] at HAB HNB HPC hpl hlc ⊢
  have t1 : ¬ 9223372036854775807 < 5 + X.size := by omega
  have t2 : ¬ 9223372036854775807 < 5 + X.size + 1 := by omega
  have q0 := HP0.out
  clear hcells hn hX hP0 hz htl
  go_enter Tryz.func18, Tryz.ntmps18
  go_wp2_with (first | (go_at_call 49; refine (HX.out _).mono ?_; rintro e w2 ⟨rfl, hb2⟩; have HN2 := hideIt (HNB.out.below hb2); have HB2 := hideIt (below2 HAB.out hb2)))
  clear q0 t1 t2 HX HP0
  go_loopw [3, 4] (fun s t wr => ∃ i : Nat, i ≤ n ∧ t = .int .i64 i ∧ s = .string (bs (P0 ++ parsL (ps.take i))) ∧ CBox wr w.heap.size 43 ⟨tr, .slice a n cc, ps, au, tm, tx⟩ ∧ Below w.heap.size w wr) (fun _ t _ => n - (intOf t).toNat)
  case atStart => exact ⟨0, by omega, rfl, by simp [parsL], HN2.out, HB2.out⟩
  case round =>
    obtain ⟨i, hi, rfl, rfl, hbox, hbw⟩ := hrel
    have HBX := hideIt hbox
    have HBW := hideIt hbw
    have c1 := hbox.c1
    simp only at c1
    have hpl2 := pars_len hpar i (by rw [HN.out]; exact hi)
    by_cases hlt : i < n
    · have i1 : decide ((i : Int) < (n : Int)) = true := decide_eq_true (by omega)
      have i2 : (i : Int) < (n : Int) := by omega
      obtain ⟨b, o, rfl, hcells⟩ := HCE.out (by rw [HN.out]; omega)
      obtain ⟨y, hyi⟩ : ∃ y, ps[i]? = some y := ⟨ps[i]'(by rw [HN.out]; exact hlt), by simp⟩
      have c0 := (hcells.below hbw).2 i y hyi
      have hy32 := par_id hpar hyi
      have HY := hideIt (fun w => refhex_d y w hy32)
      have hylen : y.data.toList.length = 32 := by rw [str_len]; exact hy32
      have HS : Hid (bs (P0 ++ parsL (ps.take i)) ++ (⟨#[112, 97, 114, 101, 110, 116, 32]⟩ ++ bs (Cb.Cd.hexL y.data.toList) ++ ⟨#[10]⟩) = bs (P0 ++ parsL (ps.take (i + 1)))) := hideIt (by
        rw [show (⟨#[112, 97, 114, 101, 110, 116, 32]⟩ : ByteArray) = bs (parentW ++ [32]) from rfl, show (⟨#[10]⟩ : ByteArray) = bs [10] from rfl, bs_append, bs_append, bs_append, parsL_take ps i y hyi]
        simp [lineL])
      have s1 : (bs (P0 ++ parsL (ps.take i))).size ≤ 1000 := by rw [bs_size, List.length_append]; omega
      have s2 : (bs (Cb.Cd.hexL y.data.toList)).size ≤ 100 := by rw [bs_size, hexL_len, hylen]; omega
      obtain ⟨A, hA⟩ : ∃ A, bs (P0 ++ parsL (ps.take i)) = A := ⟨_, rfl⟩
      obtain ⟨B, hB⟩ : ∃ B, bs (Cb.Cd.hexL y.data.toList) = B := ⟨_, rfl⟩
      rw [hA] at HS s1 ⊢
      rw [hB] at HY HS s2
      have t1 : ¬ 9223372036854775807 < 7 + B.size := by omega
      have t2 : ¬ 9223372036854775807 < 7 + B.size + 1 := by omega
      have t3 : ¬ 9223372036854775807 < A.size + (7 + B.size + 1) := by omega
      clear hcells hyi hbox hbw hA hB hy32 hylen
      go_wp2_with (first | (go_at_call 49; refine (HY.out _).mono ?_; rintro e w4 ⟨rfl, hb4⟩))
      go_roundw
      case rel => exact ⟨i + 1, by omega, by go_num, by rw [← HS.out], HBX.out.below hb4, below2 HBW.out hb4⟩
      case measure => simp [intOf]; omega
    · have i1 : decide ((i : Int) < (n : Int)) = false := decide_eq_false (by omega)
      obtain rfl : i = n := by omega
      have htk : ps.take i = ps := List.take_of_length_le (by rw [HN.out]; omega)
      rw [htk] at hpl2 ⊢
      have hau64 := aut_len hau
      have hnd : (Lib.decDigits tm).length ≤ 20 := nd_dec64 tm h4
      have HD := hideIt (fun w => refdec_d tm w h4)
      have HQ : Hid (bs (P0 ++ parsL ps) ++ ⟨#[97, 117, 116, 104, 111, 114, 32]⟩ ++ au ++ ⟨#[10, 116, 105, 109, 101, 32]⟩ ++ bs (Lib.decDigits tm) ++ ⟨#[10, 10]⟩ ++ tx = bs (putC ⟨tr, .slice a i cc, ps, au, tm, tx⟩)) := hideIt (by
        obtain ⟨l, rfl⟩ := of_bs tx
        obtain ⟨m, rfl⟩ := of_bs au
        rw [HPC.out, show (⟨#[97, 117, 116, 104, 111, 114, 32]⟩ : ByteArray) = bs (authorW ++ [32]) from rfl, show (⟨#[10, 116, 105, 109, 101, 32]⟩ : ByteArray) = bs (10 :: timeW ++ [32]) from rfl, show (⟨#[10, 10]⟩ : ByteArray) = bs [10, 10] from rfl, bs_append, bs_append, bs_append, bs_append, bs_append, bs_append]
        simp only [bs_list]
        simp [lineL])
      have s1 : (bs (P0 ++ parsL ps)).size ≤ 1000 := by rw [bs_size, List.length_append]; omega
      have s3 : (bs (Lib.decDigits tm)).size ≤ 20 := by rw [bs_size]; exact hnd
      obtain ⟨A, hA⟩ : ∃ A, bs (P0 ++ parsL ps) = A := ⟨_, rfl⟩
      obtain ⟨D, hD⟩ : ∃ D, bs (Lib.decDigits tm) = D := ⟨_, rfl⟩
      rw [hA] at HQ s1 ⊢
      rw [hD] at HD HQ s3
      have t1 : ¬ 9223372036854775807 < A.size + 7 := by omega
      have t2 : ¬ 9223372036854775807 < A.size + 7 + au.size := by omega
      have t3 : ¬ 9223372036854775807 < A.size + 7 + au.size + 6 := by omega
      have t4 : ¬ 9223372036854775807 < A.size + 7 + au.size + 6 + D.size := by omega
      have t5 : ¬ 9223372036854775807 < A.size + 7 + au.size + 6 + D.size + 2 := by omega
      have t6 : ¬ 9223372036854775807 < A.size + 7 + au.size + 6 + D.size + 2 + tx.size := by omega
      clear hA hD hbox hbw htk
      have HS : Hid (wr.drew.cell? ⟨w.heap.size, 2, none⟩ = some (.string au) ∧ wr.drew.cell? ⟨w.heap.size, 3, none⟩ = some (.int .u64 (tm : Int)) ∧ wr.drew.cell? ⟨w.heap.size, 4, none⟩ = some (.string tx) ∧ CBox wr.drew w.heap.size 43 ⟨tr, .slice a i cc, ps, au, tm, tx⟩ ∧ Below w.heap.size w wr.drew) := hideIt ⟨HBX.out.c2, HBX.out.c3, HBX.out.c4, ⟨by rw [heap_drew]; exact HBX.out.blk⟩, HBW.out.drew⟩
      go_wp2_with fail
      go_region_held3 (fun w' => w'.cell? ⟨w.heap.size, 2, none⟩ = some (.string au) ∧ w'.cell? ⟨w.heap.size, 3, none⟩ = some (.int .u64 (tm : Int)) ∧ w'.cell? ⟨w.heap.size, 4, none⟩ = some (.string tx) ∧ CBox w' w.heap.size 43 ⟨tr, .slice a i cc, ps, au, tm, tx⟩ ∧ Below w.heap.size w w') (first | (exact HS.out) | assumption | (exact cd_keep (c := ⟨tr, .slice a i cc, ps, au, tm, tx⟩) (w0 := w) hb5 (by assumption)))
        (first | (go_at_call 50; refine (HD.out _).mono ?_; rintro e w5 ⟨rfl, hb5⟩))
      have HF := hideIt (‹_ ∧ _ ∧ _ ∧ CBox w5 _ _ _ ∧ Below _ _ w5›)
      go_wp2
      go_ret
      exact ⟨by rw [← HQ.out] <;> rfl, HF.out.2.2.2.2⟩
end Ob
end Go.Proofs.YtmjffngpaoaflaaGreatDoor
