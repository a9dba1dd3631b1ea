/- The law ObjectTags, walked. -/
import Derived.Test.YtmjffngpaoaflaaDoorOh
import Derived.Test.YtmjffngpaoaflaaDoorLraw
namespace Go.Proofs.YtmjffngpaoaflaaDoor
namespace Ob
open Go.RowKit Go.Shelf
theorem kw_no10 (k : Int) : (10 : UInt8) ∉ kw k := by
  rcases kind_cases k with rfl | rfl | rfl | rfl | h'
  · decide
  · decide
  · decide
  · decide
  · rw [kw_none h']; decide
/-- What is made is read again. -/
theorem get_put {t : Tg} (h : tagE t = 0) : gT (putT t) = (t, 0) := by
  obtain ⟨hk, htg, hnm, htx⟩ := tagE_ok h
  have n1 := hex_no10 t.tgt.data.toList
  have n2 := kw_no10 t.kd
  have n3 := tag_no10 hnm
  have w1 : (10 : UInt8) ∉ objectW := by decide
  have w2 : (10 : UInt8) ∉ kindW := by decide
  have w3 : (10 : UInt8) ∉ nameW := by decide
  have r1 : tkR (putT t) = lineL kindW (kw t.kd) ++ (lineL nameW t.nm.data.toList ++ 10 :: t.tx.data.toList) := tkR_line objectW _ _ w1 n1
  have r2 : tkR (tkR (putT t)) = lineL nameW t.nm.data.toList ++ 10 :: t.tx.data.toList := by rw [r1]; exact tkR_line kindW _ _ w2 n2
  have r3 : tkR (tkR (tkR (putT t))) = 10 :: t.tx.data.toList := by rw [r2]; exact tkR_line nameW _ _ w3 n3
  have o1 : tkO objectW (putT t) = true := tkO_line objectW _ _ w1 n1
  have o2 : tkO kindW (tkR (putT t)) = true := by rw [r1]; exact tkO_line kindW _ _ w2 n2
  have o3 : tkO nameW (tkR (tkR (putT t))) = true := by rw [r2]; exact tkO_line nameW _ _ w3 n3
  have t1 : tkT objectW (putT t) = Cb.Cd.hexL t.tgt.data.toList := tkT_line objectW _ _ w1 n1
  have t2 : tkT kindW (tkR (putT t)) = kw t.kd := by rw [r1]; exact tkT_line kindW _ _ w2 n2
  have t3 : tkT nameW (tkR (tkR (putT t))) = t.nm.data.toList := by rw [r2]; exact tkT_line nameW _ _ w3 n3
  have x := tx_line t.tx.data.toList
  have hu : Cb.Cd.unhexL (Cb.Cd.hexL t.tgt.data.toList) = some t.tgt.data.toList := Cb.Cd.unhex_hex _
  have hg : gTo (putT t) = true := by
    have hkk : knO (kw t.kd) = true := by unfold knO; rw [kn_kw _ hk, decide_eq_false (by omega)]; rfl
    unfold gTo
    rw [o1, t1, id_hex _ htg, o2, t2, hkk, o3, r3, x.1]
    rfl
  have ht : gTt (putT t) = t := by
    unfold gTt unhB
    rw [t1, hu, t2, t3, r3, x.2, kn_kw _ hk, bs_data, bs_data]
    simp only [Option.getD_some, bs_data]
  rw [gT, if_pos hg, ht, if_pos h]
theorem putT_len {t : Tg} (h : tagE t = 0) (h2 : t.nm.size ≤ 5000) : (putT t).length ≤ 20000 := by
  obtain ⟨hk, htg, hnm, htx⟩ := tagE_ok h
  have := kw_len t.kd
  have e1 : t.tgt.data.toList.length = 32 := by rw [str_len]; exact htg
  have e2 : t.nm.data.toList.length = t.nm.size := str_len _
  have e3 : t.tx.data.toList.length = t.tx.size := str_len _
  simp only [putT, lineL, List.length_append, List.length_cons, List.length_nil, hexL_len, e1, e2, e3]
  simp [objectW, kindW, nameW]
  omega
set_option maxHeartbeats 3200000 in
set_option maxRecDepth 100000 in
theorem tags_law (x : Tg) (w : World) (hk : Ok w) (h1 : x.tgt.size ≤ maxLen) (h2 : x.nm.size ≤ maxLen) (h3 : x.tx.size ≤ maxLen) :
    Calls Tryd.prog 4 #[tgV x] w fun e w' => e = .returned (.bool true) ∧ Below w.heap.size w w' := by
  have HOK := hideIt hk
  have HF1 := hideIt (fun w => flipC (few_any x.tgt w h1))
  have HF2 := hideIt (fun w => flipC (few_any x.nm w h2))
  have HF3 := hideIt (fun w => flipC (few_any x.tx w h3))
  have f1 := fewS_size x.tgt
  have f2 := fewS_size x.nm
  have f3 := fewS_size x.tx
  obtain ⟨a, ha⟩ : ∃ a, fewS x.tgt = a := ⟨_, rfl⟩
  obtain ⟨n, hn⟩ : ∃ n, fewS x.nm = n := ⟨_, rfl⟩
  obtain ⟨b, hb⟩ : ∃ b, fewS x.tx = b := ⟨_, rfl⟩
  rw [ha] at HF1 f1
  rw [hn] at HF2 f2
  rw [hb] at HF3 f3
  obtain ⟨tgt, kd, nm, tx⟩ := x
  unfold tgV
  simp only at *
  have HC := hideIt (fun w => checkTag_any ⟨a, kd, n, b⟩ w (by simp only; omega) (by simp only; omega))
  have HRC := hideIt (fun w => refcheckTag_any ⟨a, kd, n, b⟩ w (by simp only; omega) (by simp only; omega))
  have HP := hideIt (fun w => putTag_any ⟨a, kd, n, b⟩ w (by simp only; omega) (by simp only; omega))
  have HA := hideIt awake_any
  unfold tgV at HC HRC HP
  simp only at HC HRC HP
  have HS : Hid (TC w.heap.size 32 ⟨tgt, kd, nm, tx⟩ w (w.alloc (.cells #[.string tgt, .int .i64 kd, .string nm, .string tx] 32)).drew) := hideIt (TC.drew (TC.of (TBox.new w 32 ⟨tgt, kd, nm, tx⟩) (new_below _ _)))
  have HS2 : Hid (TC w.heap.size 32 ⟨tgt, kd, nm, tx⟩ w ((w.alloc (.cells #[.string tgt, .int .i64 kd, .string nm, .string tx] 32)).alloc (.cells #[.string a, .int .i64 kd, .string n, .string b] 32)).drew) := hideIt (TC.drew (TC.keep (new_below _ _) (TC.of (TBox.new w 32 ⟨tgt, kd, nm, tx⟩) (new_below _ _))))
  clear ha hn hb h1 h2 h3 hk
  have HTB : Hid (TBox ((w.alloc (.cells #[.string tgt, .int .i64 kd, .string nm, .string tx] 32)).alloc (.cells #[.string a, .int .i64 kd, .string n, .string b] 32)).drew (w.heap.size + 1) 32 ⟨a, kd, n, b⟩) := hideIt ⟨by rw [heap_drew]; exact Cb.alloc_at (by simp)⟩
  have HBW : Hid (Below w.heap.size w ((w.alloc (.cells #[.string tgt, .int .i64 kd, .string nm, .string tx] 32)).alloc (.cells #[.string a, .int .i64 kd, .string n, .string b] 32)).drew) := hideIt (below2 (new_below _ _) (new_below _ _)).drew
  by_cases hz : tagE ⟨a, kd, n, b⟩ = 0
  · have hpl := putT_len hz f2
    have HG := hideIt (fun w hm => getTag_any (putT ⟨a, kd, n, b⟩) w (by omega) hm)
    rw [get_put hz] at HG
    have HRP := hideIt (fun w => refputTag_any ⟨a, kd, n, b⟩ w hz (by simp only; omega))
    rw [putTR, if_pos hz] at HP
    rw [hz] at HC HRC
    unfold tgV at HG HRP
    simp only at HG HRP HP
    obtain ⟨S, hS⟩ : ∃ S, bs (putT ⟨a, kd, n, b⟩) = S := ⟨_, rfl⟩
    rw [hS] at HG HRP HP
    have e1 := beq_same S
    have e2 := beq_same a
    have e3 := beq_same n
    have e4 := beq_same b
    clear hpl hS hz f1 f2 f3
    go_enter Tryd.func4, Tryd.ntmps4
    go_wp2_with fail
    go_region_held3 (fun w' => w'.cell? ⟨w.heap.size, 0, none⟩ = some (.string tgt) ∧ w'.cell? ⟨w.heap.size, 1, none⟩ = some (.int .i64 kd) ∧ w'.cell? ⟨w.heap.size, 2, none⟩ = some (.string nm) ∧ w'.cell? ⟨w.heap.size, 3, none⟩ = some (.string tx) ∧ TC w.heap.size 32 ⟨tgt, kd, nm, tx⟩ w w') (first | (exact ⟨HS.out.1, HS.out.2.1, HS.out.2.2.1, HS.out.2.2.2.1, HS.out⟩) | (exact ⟨HS2.out.1, HS2.out.2.1, HS2.out.2.2.1, HS2.out.2.2.2.1, HS2.out⟩) | assumption | (exact TC.keep4 (t := ⟨tgt, kd, nm, tx⟩) (w0 := w) (new_below _ _) (by assumption)))
      (first | (go_at_call_of 6 (Value.string tgt); refine (HF1.out _).mono ?_; rintro e w5 ⟨rfl, rfl⟩) | (go_at_call_of 6 (Value.string nm); refine (HF2.out _).mono ?_; rintro e w5 ⟨rfl, rfl⟩) | (go_at_call_of 6 (Value.string tx); refine (HF3.out _).mono ?_; rintro e w5 ⟨rfl, rfl⟩))
    all_goals clear HS HS2 HF1 HF2 HF3
    all_goals go_wp2_with (first
      | (go_at_call 12; refine (HRC.out _).mono ?_; rintro e w2 ⟨rfl, hb2⟩; have T2 := hideIt (HTB.out.below hb2); have c20 := T2.out.c0; have c21 := T2.out.c1; have c22 := T2.out.c2; have c23 := T2.out.c3; have HB2 := hideIt (below2 HBW.out hb2); clear hb2)
      | (go_at_call 13; refine (HP.out _).mono ?_; rintro e w3 ⟨rfl, hb3⟩; have T3 := hideIt (T2.out.below hb3); have HB3 := hideIt (below2 HB2.out hb3); clear hb3)
      | (go_at_call 7; refine (HA.out _ (HOK.out.below HB3.out)).mono ?_; rintro e w4 ⟨rfl, hb4⟩; have T4 := hideIt (T3.out.below hb4); have c40 := T4.out.c0; have c41 := T4.out.c1; have c42 := T4.out.c2; have c43 := T4.out.c3; have HB4 := hideIt (below2 HB3.out hb4); clear hb4)
      | (go_at_call 14; refine (HC.out _).mono ?_; rintro e w5 ⟨rfl, hb5⟩; have T5 := hideIt (T4.out.below hb5); have HB5 := hideIt (below2 HB4.out hb5); clear hb5)
      | (go_at_call 15; refine (HG.out _ (HOK.out.below HB5.out).max).mono ?_; rintro e w6 ⟨rfl, hb6⟩; have T6 := hideIt (T5.out.below hb6); have c60 := T6.out.c0; have c61 := T6.out.c1; have c62 := T6.out.c2; have c63 := T6.out.c3; have X6 := hideIt (T6.out.below (new_below w6 (.cells #[.string a, .int .i64 kd, .string n, .string b] 32))); have x60 := X6.out.c0; have x61 := X6.out.c1; have x62 := X6.out.c2; have x63 := X6.out.c3; have HB6 := hideIt (below2 HB5.out hb6); clear hb6)
      | (go_at_call 16; refine (HRP.out _).mono ?_; rintro e w7 ⟨rfl, hb7⟩; have T7 := hideIt ((T6.out.below (new_below _ _)).below hb7); have U7 := hideIt ((TBox.new w6 32 ⟨a, kd, n, b⟩).below hb7); have c70 := T7.out.c0; have c71 := T7.out.c1; have c72 := T7.out.c2; have c73 := T7.out.c3; have d70 := U7.out.c0; have d71 := U7.out.c1; have d72 := U7.out.c2; have d73 := U7.out.c3; have HB7 := hideIt (below2 (below2 HB6.out (new_below _ _)) hb7); clear hb7))
    all_goals go_ret
    all_goals exact ⟨rfl, HB7.out⟩
  · rw [putTR, if_neg hz] at HP
    simp only at HP
    obtain ⟨z, hzz⟩ : ∃ z, tagE ⟨a, kd, n, b⟩ = z := ⟨_, rfl⟩
    rw [hzz] at HC HRC HP hz
    have HP2 : Hid (∀ w, Calls Tryd.prog 13 #[.agg #[.string a, .int .i64 kd, .string n, .string b]] w fun e w' => e = .returned (.tuple #[.string ⟨#[]⟩, .int .i64 z]) ∧ Below w.heap.size w w') := HP
    have z1 : (z != z) = false := by simp
    have z2 : (z != 0) = true := by simpa using hz
    clear HP hzz f1 f2 f3
    go_enter Tryd.func4, Tryd.ntmps4
    go_wp2_with fail
    go_region_held3 (fun w' => w'.cell? ⟨w.heap.size, 0, none⟩ = some (.string tgt) ∧ w'.cell? ⟨w.heap.size, 1, none⟩ = some (.int .i64 kd) ∧ w'.cell? ⟨w.heap.size, 2, none⟩ = some (.string nm) ∧ w'.cell? ⟨w.heap.size, 3, none⟩ = some (.string tx) ∧ TC w.heap.size 32 ⟨tgt, kd, nm, tx⟩ w w') (first | (exact ⟨HS.out.1, HS.out.2.1, HS.out.2.2.1, HS.out.2.2.2.1, HS.out⟩) | (exact ⟨HS2.out.1, HS2.out.2.1, HS2.out.2.2.1, HS2.out.2.2.2.1, HS2.out⟩) | assumption | (exact TC.keep4 (t := ⟨tgt, kd, nm, tx⟩) (w0 := w) (new_below _ _) (by assumption)))
      (first | (go_at_call_of 6 (Value.string tgt); refine (HF1.out _).mono ?_; rintro e w5 ⟨rfl, rfl⟩) | (go_at_call_of 6 (Value.string nm); refine (HF2.out _).mono ?_; rintro e w5 ⟨rfl, rfl⟩) | (go_at_call_of 6 (Value.string tx); refine (HF3.out _).mono ?_; rintro e w5 ⟨rfl, rfl⟩))
    all_goals clear HS HS2 HF1 HF2 HF3
    all_goals go_wp2_with (first
      | (go_at_call 12; refine (HRC.out _).mono ?_; rintro e w2 ⟨rfl, hb2⟩; have T2 := hideIt (HTB.out.below hb2); have c20 := T2.out.c0; have c21 := T2.out.c1; have c22 := T2.out.c2; have c23 := T2.out.c3; have HB2 := hideIt (below2 HBW.out hb2); clear hb2)
      | (go_at_call 13; refine (HP2.out _).mono ?_; rintro e w3 ⟨rfl, hb3⟩; have T3 := hideIt (T2.out.below hb3); have HB3 := hideIt (below2 HB2.out hb3); clear hb3)
      | (go_at_call 7; refine (HA.out _ (HOK.out.below HB3.out)).mono ?_; rintro e w4 ⟨rfl, hb4⟩; have T4 := hideIt (T3.out.below hb4); have c40 := T4.out.c0; have c41 := T4.out.c1; have c42 := T4.out.c2; have c43 := T4.out.c3; have HB4 := hideIt (below2 HB3.out hb4); clear hb4)
      | (go_at_call 14; refine (HC.out _).mono ?_; rintro e w5 ⟨rfl, hb5⟩; have T5 := hideIt (T4.out.below hb5); have HB5 := hideIt (below2 HB4.out hb5); clear hb5))
    all_goals go_ret
    all_goals exact ⟨rfl, HB5.out⟩
end Ob
end Go.Proofs.YtmjffngpaoaflaaDoor
