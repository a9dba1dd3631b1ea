/- The document's tags: checked and made, walked. -/
import Derived.Test.YtmjffngpaoaflaaGreatDoorOg
import Derived.Test.YtmjffngpaoaflaaGreatDoorOy
import Derived.Test.YtmjffngpaoaflaaGreatDoorOo
import Derived.Test.YtmjffngpaoaflaaGreatDoorCbAll
namespace Go.Proofs.YtmjffngpaoaflaaGreatDoor
namespace Ob
open Go.RowKit Go.Shelf
theorem refK_range (s : ByteArray) : refK s = 0 ∨ refK s = 1 ∨ refK s = 2 := by
  unfold refK
  repeat' split
  all_goals simp
set_option maxHeartbeats 1600000 in
set_option maxRecDepth 100000 in
theorem refcheckTag_any (t : Tg) (w : World) (h2 : t.nm.size ≤ 100000) (h3 : t.tx.size ≤ 1000000) :
    Calls Tryz.prog 55 #[tgV t] w fun e w' => e = .returned (.int .i64 (tagE t)) ∧ Below w.heap.size w w' := by
  have HNB := hideIt (TBox.new w 61 t)
  obtain ⟨tgt, kd, nm, tx⟩ := t
  simp only at h2 h3
  unfold tgV
  simp only at HNB ⊢
  have HE : Hid (tagE ⟨tgt, kd, nm, tx⟩ = if 1 ≤ kd ∧ kd ≤ 4 then (if (idB tgt && tagN nm && textB tx) = true then 0 else 6) else 70) := rfl
  have HR : Hid (∀ w, Calls Tryz.prog 80 #[.string (⟨#[116, 97, 103, 115, 47]⟩ ++ nm)] w fun e w' => e = .returned (.int .i64 (refK (bs tagsW ++ nm))) ∧ Below w.heap.size w w') := hideIt (fun w => refref_any _ w (by
    rw [show (⟨#[116, 97, 103, 115, 47]⟩ : ByteArray) = bs tagsW from rfl, ByteArray.size_append, bs_size]; simp [tagsW]; omega))
  have HT := hideIt (fun w => reftext_any tx w h3)
  have hrk : tagN nm = decide (0 < refK (bs tagsW ++ nm)) := (refK_says (bs tagsW ++ nm)).1
  have hrr := refK_range (bs tagsW ++ nm)
  have t1 : ¬ 9223372036854775807 < 5 + nm.size := by omega
  have HAB := hideIt (new_below w (.cells #[.string tgt, .int .i64 kd, .string nm, .string tx] 61))
  obtain ⟨k, hk⟩ : ∃ k, refK (bs tagsW ++ nm) = k := ⟨_, rfl⟩
  obtain ⟨x, hx⟩ : ∃ x, textB tx = x := ⟨_, rfl⟩
  rw [hk] at HR hrk hrr
  rw [hrk] at HE
  rw [hx] at HT HE
  have HI : Hid (idB tgt = decide (tgt.size = 32)) := rfl
  rw [HI.out] at HE
  clear hk hx h2 h3 hrk HI
  by_cases hkd : 1 ≤ kd ∧ kd ≤ 4
  · rw [if_pos hkd] at HE
    have k1 : ¬ kd < 1 := by omega
    have k2 : ¬ 4 < kd := by omega
    clear hkd
    by_cases hi : tgt.size = 32
    · have i1 : (tgt.size : Int) = 32 := by omega
      rw [decide_eq_true hi, Bool.true_and] at HE
      by_cases hz : k = 0
      · subst hz
        rw [decide_eq_false (by omega), Bool.false_and, if_neg (by decide)] at HE
        go_enter Tryz.func55, Tryz.ntmps55
        go_wp2_with (first | (go_at_call 80; refine (HR.out _).mono ?_; rintro e w3 ⟨rfl, hb3⟩))
        go_ret
        exact ⟨by rw [HE.out] <;> rfl, below2 HAB.out hb3⟩
      · have hz1 : (k == 0) = false := by simpa using hz
        rw [decide_eq_true (by omega), Bool.true_and] at HE
        cases x with
        | false =>
          rw [if_neg (by decide)] at HE
          go_enter Tryz.func55, Tryz.ntmps55
          go_wp2_with (first | (go_at_call 80; refine (HR.out _).mono ?_; rintro e w3 ⟨rfl, hb3⟩; have c3 := (HNB.out.below hb3).c3) | (go_at_call 36; refine (HT.out _).mono ?_; rintro e w4 ⟨rfl, rfl⟩))
          go_ret
          exact ⟨by rw [HE.out] <;> rfl, below2 HAB.out hb3⟩
        | true =>
          rw [if_pos rfl] at HE
          go_enter Tryz.func55, Tryz.ntmps55
          go_wp2_with (first | (go_at_call 80; refine (HR.out _).mono ?_; rintro e w3 ⟨rfl, hb3⟩; have c3 := (HNB.out.below hb3).c3) | (go_at_call 36; refine (HT.out _).mono ?_; rintro e w4 ⟨rfl, rfl⟩))
          go_ret
          exact ⟨by rw [HE.out] <;> rfl, below2 HAB.out hb3⟩
    · have i1 : ((tgt.size : Int) != 32) = true := by
        have : (tgt.size : Int) ≠ 32 := by omega
        simpa using this
      have i2 : ¬ (tgt.size : Int) = 32 := by omega
      rw [decide_eq_false hi, Bool.false_and, Bool.false_and, if_neg (by decide)] at HE
      go_enter Tryz.func55, Tryz.ntmps55
      go_wp2_with (first | (go_at_call 80; refine (HR.out _).mono ?_; rintro e w3 ⟨rfl, hb3⟩))
      go_ret
      exact ⟨by rw [HE.out] <;> rfl, HAB.out⟩
  · rw [if_neg hkd] at HE
    by_cases k1 : kd < 1
    · go_enter Tryz.func55, Tryz.ntmps55
      go_wp2_with fail
      go_ret
      exact ⟨by rw [HE.out] <;> rfl, HAB.out⟩
    · have k2 : 4 < kd := by omega
      go_enter Tryz.func55, Tryz.ntmps55
      go_wp2_with fail
      go_ret
      exact ⟨by rw [HE.out] <;> rfl, HAB.out⟩
theorem refhex_c (s : ByteArray) (w : World) (h : s.size ≤ 400) : Calls Tryz.prog 49 #[.string s] w fun e w' => e = .returned (.string (bs (Cb.Cd.hexL s.data.toList))) ∧ Below w.heap.size w w' := Cb.refhex_any s w h
theorem putT_ref (t : Tg) : (⟨#[111, 98, 106, 101, 99, 116, 32]⟩ : ByteArray) ++ bs (Cb.Cd.hexL t.tgt.data.toList) ++ ⟨#[10, 107, 105, 110, 100, 32]⟩ ++ bs (kw t.kd) ++ ⟨#[10, 110, 97, 109, 101, 32]⟩ ++ t.nm ++ ⟨#[10, 10]⟩ ++ t.tx = bs (putT t) := by
  obtain ⟨l, hl⟩ := of_bs t.tx
  obtain ⟨m, hm⟩ := of_bs t.nm
  rw [putT, hl, hm, bs_list, bs_list, show (⟨#[111, 98, 106, 101, 99, 116, 32]⟩ : ByteArray) = bs (objectW ++ [32]) from rfl, show (⟨#[10, 107, 105, 110, 100, 32]⟩ : ByteArray) = bs (10 :: kindW ++ [32]) from rfl, show (⟨#[10, 110, 97, 109, 101, 32]⟩ : ByteArray) = bs (10 :: nameW ++ [32]) from rfl, show (⟨#[10, 10]⟩ : ByteArray) = bs [10, 10] from rfl, bs_append, bs_append, bs_append, bs_append, bs_append, bs_append, bs_append]
  simp [lineL]
set_option maxHeartbeats 1600000 in
set_option maxRecDepth 100000 in
theorem refputTag_any (t : Tg) (w : World) (hz : tagE t = 0) (h2 : t.nm.size ≤ 1000000) :
    Calls Tryz.prog 23 #[tgV t] w fun e w' => e = .returned (.string (bs (putT t))) ∧ Below w.heap.size w w' := by
  have HNB := hideIt (TBox.new w 61 t)
  have HAB := hideIt (new_below w (.cells #[.string t.tgt, .int .i64 t.kd, .string t.nm, .string t.tx] 61))
  obtain ⟨hk, htg, -, htx⟩ := tagE_ok hz
  have HX := hideIt (fun w => refhex_c t.tgt w (by omega))
  have htl : t.tgt.data.toList.length = 32 := by rw [str_len]; exact htg
  have HW := hideIt (fun w => refkind_any t.kd (by omega) w)
  have HB := hideIt (putT_ref t)
  have s1 : (bs (Cb.Cd.hexL t.tgt.data.toList)).size ≤ 100 := by rw [bs_size, hexL_len]; omega
  have s2 : (bs (kw t.kd)).size ≤ 100 := by rw [bs_size]; have := kw_len t.kd; omega
  obtain ⟨X, hX⟩ : ∃ X, bs (Cb.Cd.hexL t.tgt.data.toList) = X := ⟨_, rfl⟩
  obtain ⟨K, hK⟩ : ∃ K, bs (kw t.kd) = K := ⟨_, rfl⟩
  obtain ⟨Q, hQ⟩ : ∃ Q, bs (putT t) = Q := ⟨_, rfl⟩
  rw [hX] at HX HB s1
  rw [hK] at HW HB s2
  rw [hQ] at HB ⊢
  obtain ⟨tgt, kd, nm, tx⟩ := t
  unfold tgV
  simp only at *
  have t1 : ¬ 9223372036854775807 < 7 + X.size := by omega
  have t2 : ¬ 9223372036854775807 < 7 + X.size + 6 := by omega
  have t3 : ¬ 9223372036854775807 < 7 + X.size + 6 + K.size := by omega
  have t4 : ¬ 9223372036854775807 < 7 + X.size + 6 + K.size + 6 := by omega
  have t5 : ¬ 9223372036854775807 < 7 + X.size + 6 + K.size + 6 + nm.size := by omega
  have t6 : ¬ 9223372036854775807 < 7 + X.size + 6 + K.size + 6 + nm.size + 2 := by omega
  have t7 : ¬ 9223372036854775807 < 7 + X.size + 6 + K.size + 6 + nm.size + 2 + tx.size := by omega
  have HS : Hid (TC w.heap.size 61 ⟨tgt, kd, nm, tx⟩ w (w.alloc (.cells #[.string tgt, .int .i64 kd, .string nm, .string tx] 61)).drew) := hideIt (TC.drew (TC.of HNB.out HAB.out))
  clear hX hK hQ hz hk htg htl
  go_enter Tryz.func23, Tryz.ntmps23
  go_wp2_with fail
  go_region_held3 (fun w' => w'.cell? ⟨w.heap.size, 0, none⟩ = some (.string tgt) ∧ w'.cell? ⟨w.heap.size, 1, none⟩ = some (.int .i64 kd) ∧ w'.cell? ⟨w.heap.size, 2, none⟩ = some (.string nm) ∧ w'.cell? ⟨w.heap.size, 3, none⟩ = some (.string tx) ∧ TC w.heap.size 61 ⟨tgt, kd, nm, tx⟩ w w') (first | (exact ⟨HS.out.1, HS.out.2.1, HS.out.2.2.1, HS.out.2.2.2.1, HS.out⟩) | assumption | (exact TC.keep4 (t := ⟨tgt, kd, nm, tx⟩) (w0 := w) hb5 (by assumption)))
    (first | (go_at_call 49; refine (HX.out _).mono ?_; rintro e w5 ⟨rfl, hb5⟩) | (go_at_call 27; refine (HW.out _).mono ?_; rintro e w5 ⟨rfl, hb5⟩))
  have HTC : Hid (TC w.heap.size 61 ⟨tgt, kd, nm, tx⟩ w w5) := hideIt (‹_ ∧ _ ∧ _ ∧ _ ∧ TC _ _ _ _ w5›).2.2.2.2
  go_wp2
  go_ret
  exact ⟨by rw [← HB.out] <;> rfl, HTC.out.2.2.2.2.2⟩
end Ob
end Go.Proofs.YtmjffngpaoaflaaGreatDoor
