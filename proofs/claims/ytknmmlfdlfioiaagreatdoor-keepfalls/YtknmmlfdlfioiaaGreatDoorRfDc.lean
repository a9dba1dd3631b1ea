/- Refs: what bytes say: Decode, walked. -/
import Derived.Test.YtknmmlfdlfioiaaGreatDoorRfDb
namespace Go.Proofs.YtknmmlfdlfioiaaGreatDoor.Rf
open Cb Go.RowKit Go.Shelf
theorem DM.row_new {w0 w : World} {g n : Nat} {hd : ByteArray} {m : List Rf} {v : Value} (h : DM w0 g hd m v w) (hn : m.length = n) (o : Obj) : (w.alloc o).ownsRow (g + 1) 65 2 v n (rfsV m) := by
  subst hn
  exact own_below h.row ((Below.refl _ w).alloc (Nat.le_refl _) o)
theorem DM.append_n {w0 w w3 : World} {g n : Nat} {hd : ByteArray} {m : List Rf} {v v3 : Value} {o : Obj} (h : DM w0 g hd m v w) (hn : m.length = n) (x : Rf) (hg : (w.alloc o).grownBy w3 v.ownBlock) (hown : w3.ownsRow (g + 1) 65 2 v3 (n + 1) (rfsV m ++ rfV x)) :
    (w3.cell? ⟨g, 1, none⟩ = some v ∧ w3.frozen? ⟨g, 1, none⟩ = false) ∧ DM w0 g hd (m ++ [x]) v3 (w3.setCell ⟨g, 1, none⟩ v3) := by
  subst hn
  exact h.append x hg hown
/-- The library's one word that a search reads. -/
def MaxR (w : World) : Prop := ∃ m, w.cell? ⟨1, 0, none⟩ = some (.int .i64 m)
theorem MaxR.below {w w' : World} (h : MaxR w) (hb : Below w.heap.size w w') : MaxR w' := by
  obtain ⟨m, h⟩ := h
  have hlt : 1 < w.heap.size := by
    rcases Nat.lt_or_ge 1 w.heap.size with h' | h'
    · exact h'
    · simp [World.cell?, Array.getElem?_eq_none h'] at h
  exact ⟨m, by rw [hb.cell (p := ⟨1, 0, none⟩) hlt]; exact h⟩
theorem Dr.below {w w' : World} (h : Dr w w') : Below w.heap.size w w' := by
  obtain ⟨n, rfl⟩ := h
  exact below_drewN w n
theorem line_any (S : List UInt8) (w : World) (hS : S.length ≤ 1000000) (hm : MaxR w) :
    Calls Tryz.prog 81 #[.string (Cb.bs S)] w fun e w' => e = .returned (.tuple #[.string (Cb.bs (lineL S).1), .string (Cb.bs (lineL S).2.1), .string (Cb.bs (lineL S).2.2.1), .bool (lineL S).2.2.2]) ∧ Below w.heap.size w w' := by
  obtain ⟨m, hm⟩ := hm
  have h1 := cut1_size S
  refine (readLine_any (Cb.bs S) m w (by rw [Cb.bs_size]; omega) (by omega) hm).mono ?_
  rintro e w' ⟨rfl, hd⟩
  rw [lineR_eq]
  exact ⟨rfl, hd.below⟩
theorem head_word (T : List UInt8) : ((Cb.bs T).toList == [104, 101, 97, 100]) = decide (T = [104, 101, 97, 100]) := by
  rw [ByteArray.toList_eq, Cb.bs_list]
  by_cases h : T = [104, 101, 97, 100]
  · rw [h]; rfl
  · rw [decide_eq_false h]; exact beq_eq_false_iff_ne.2 h
theorem new_below (w : World) (o : Obj) : Below w.heap.size w (w.alloc o) := (Below.refl _ w).alloc (Nat.le_refl _) _
theorem one_ref (w : World) (a b : ByteArray) (j : Nat) (u : Value) (h : (rfV ⟨a, b⟩)[j]? = some u) : (w.alloc (.cells #[.string a, .string b] 65)).cell? ((⟨w.heap.size, 0, none⟩ : Addr).add j) = some u := by
  rw [Addr.add_lit, Nat.zero_add, World.cell?_alloc_at _ _ _ _ rfl]
  match j, h with
  | 0, h => simpa [rfV] using h
  | 1, h => simpa [rfV] using h
  | j + 2, h => simp [rfV] at h
set_option maxHeartbeats 6400000 in
set_option maxRecDepth 100000 in
theorem decode_any (S : List UInt8) (w : World) (hS : S.length ≤ 1000000) (hm : MaxR w) :
    Calls Tryz.prog 57 #[.string (Cb.bs S)] w fun e w' => DecTo w S e w' := by
  have HBAD := hideIt (fun (w' : World) (E : Int) => dec_bad (w := w) (w' := w') (S := S) (E := E))
  have HTO : Hid (∀ e w', DecTo w S e w' ↔ ∃ v, e = .returned (.tuple #[.agg #[.string (Cb.bs (decP S).2.1), v], .int .i64 (decP S).1]) ∧ RRow w' v (decP S).2.2 ∧ Below w.heap.size w w') := hideIt (fun _ _ => Iff.rfl)
  have HP : Hid (decP S = if (lineL S).2.2.2 = true ∧ (lineL S).1 = [104, 101, 97, 100] then
    match rowsL (lineL S).2.2.1.length (lineL S).2.2.1 with
    | some L => if chkR (Cb.bs (lineL S).2.1) L = 0 then (0, (lineL S).2.1, L) else (chkR (Cb.bs (lineL S).2.1) L, [], [])
    | none => (6, [], [])
  else (6, [], [])) := hideIt rfl
  obtain ⟨W, hW⟩ : ∃ W, w.alloc (.cells #[.string ⟨#[]⟩, .slice none 0 0] 37) = W := ⟨_, rfl⟩
  have hb : Below w.heap.size w W := by rw [← hW]; exact (Below.refl _ w).alloc (Nat.le_refl _) _
  have hsz : W.heap.size = w.heap.size + 1 := by rw [← hW]; simp
  have hres : W.heap[w.heap.size]? = some (.cells #[.string ⟨#[]⟩, .slice none 0 0] 37 (0, 0)) := by rw [← hW]; exact alloc_at rfl
  have HF : Hid (∀ w', Below W.heap.size W w' → w'.heap[w.heap.size]? = some (.cells #[.string ⟨#[]⟩, .slice none 0 0] 37 (0, 0))) := hideIt (fun w' hb' => by rw [hb'.block _ (by omega)]; exact hres)
  have HB := hideIt hb
  have HW := hideIt hW
  have HL := hideIt (line_any S W hS (hm.below hb))
  have hle := line_le S
  have hw := head_word (lineL S).1
  obtain ⟨A, B, R0, is, hline⟩ : ∃ A B R0 is, lineL S = (A, B, R0, is) := ⟨_, _, _, _, rfl⟩
  rw [hline] at HL HP hle hw
  simp only at HL HP hle hw
  have HBW : Hid (∀ w', Below W.heap.size W w' → Below w.heap.size w (w'.setCell ⟨w.heap.size, 0, none⟩ (.string ⟨#[]⟩) |>.setCell ⟨w.heap.size, 1, none⟩ (.slice none 0 0))) := hideIt (fun w' hb' => ((below_step hb (Nat.le_refl _) hb').setCell (p := ⟨w.heap.size, 0, none⟩) (Nat.le_refl _) _).setCell (p := ⟨w.heap.size, 1, none⟩) (Nat.le_refl _) _)
  have HMX := hideIt hm
  have HLE := hideIt hle
  obtain ⟨TA, hTA⟩ : ∃ T, Cb.bs A = T := ⟨_, rfl⟩
  rw [hTA] at HL hw
  clear hb hW hres hline hle hTA hm
  cases is
  · have HQ : Hid (decP S = (6, [], [])) := hideIt (by rw [HP.out, if_neg (by simp)])
    go_enter Tryz.func57, Tryz.ntmps57
    go_wp2_with (first | (go_at_call 81; rw [HW.out]; refine HL.out.mono ?_; rintro e w1 ⟨rfl, hb1⟩; have hr := HF.out _ hb1; have q0 := cellAt (i := 0) hr rfl; have q1 := cellAt (i := 1) hr rfl; have z0 := frz hr 0; have z1 := frz hr 1; have HB1 := hideIt hb1; clear hb1 hr))
    refine bodyPost_ret (v := .tuple #[.agg #[.string ⟨#[]⟩, .slice none 0 0], .int .i64 6]) ?_ rfl (HBAD.out _ _ HQ.out (HBW.out _ HB1.out))
    rw [results_c2 rfl]
    go_simp
  · by_cases hh : A = [104, 101, 97, 100]
    · rw [decide_eq_true hh] at hw
      have HQ0 : Hid (decP S = match rowsL R0.length R0 with
        | some L => if chkR (Cb.bs B) L = 0 then (0, B, L) else (chkR (Cb.bs B) L, [], [])
        | none => (6, [], [])) := hideIt (by rw [HP.out, if_pos (by simp [hh])])
      clear HP hh
      obtain ⟨hl1, hl2, hl3, hl4⟩ := HLE.out
      have hl5 := hl4 rfl
      obtain ⟨hd, hhd⟩ : ∃ hd, Cb.bs B = hd := ⟨_, rfl⟩
      have HHD := hideIt hhd
      have HCL := hideIt (fun w => clone_any hd w (by rw [← hhd, Cb.bs_size]; omega))
      rw [hhd] at HL HQ0
      obtain ⟨X0, hX0⟩ : ∃ X, Cb.bs R0 = X := ⟨_, rfl⟩
      have HX0 := hideIt hX0
      rw [hX0] at HL
      clear hhd hX0 hl1 hl2 hl4
      go_enter Tryz.func57, Tryz.ntmps57
      go_wp2_with (first
        | (go_at_call 81; rw [HW.out]; refine HL.out.mono ?_; rintro e w1 ⟨rfl, hb1⟩; have HB1 := hideIt hb1; clear hb1)
        | (go_at_call 66; refine (HCL.out _).mono ?_; rintro e w2 ⟨rfl, hb2⟩; have HB2 := hideIt (below_step HB1.out (Nat.le_refl _) hb2); clear hb2))
      have HD0 : Hid (DM w w2.heap.size hd (([] : List Rf).take 257) (.slice none 0 0) (w2.alloc (.cells #[.string hd, .slice none 0 0] 37))) := hideIt ⟨(below_step HB.out (Nat.le_refl _) HB2.out).alloc (by have := HB2.out.size; omega) _, by have := HB2.out.size; omega, by simp, by rw [Below.heap_alloc _ _ _ (by have := HB2.out.size; omega)]; exact HF.out _ HB2.out, alloc_at rfl, by simpa [rfsV] using own_nil _ _ _ _⟩
      obtain ⟨g, hg⟩ : ∃ g, w2.heap.size = g := ⟨_, rfl⟩
      rw [hg] at HD0 ⊢
      clear hg
      go_loopw [6] (fun u wr => ∃ (R : List UInt8) (k : Nat) (la : List Rf) (v : Value), u = .string (Cb.bs R) ∧ R.length ≤ k ∧ R.length + la.length ≤ 1000000 ∧ DM w g hd (la.take 257) v wr ∧ rowsL R0.length R0 = (rowsL k R).map (la ++ ·)) (fun u _ => lenS u)
      case atStart => exact ⟨R0, R0.length, [], _, by rw [HX0.out], Nat.le_refl _, by simp; omega, HD0.out, by simp⟩
      case round =>
        obtain ⟨R, k, la, v, rfl, hk, hRl, dm, hrows⟩ := hrel
        have HDM := hideIt dm
        have HRW := hideIt hrows
        clear dm hrows
        obtain ⟨n, hn⟩ : ∃ n, (la.take 257).length = n := ⟨_, rfl⟩
        have HN := hideIt hn
        obtain ⟨sa, sc, hv⟩ := own_slice HDM.out.row
        rw [hn] at hv
        subst hv
        have hn257 : n ≤ 257 := by rw [← hn, List.length_take]; omega
        have hla : la.length ≤ 256 ↔ n ≤ 256 := by rw [← hn, List.length_take]; omega
        have HLA := hideIt hla
        obtain ⟨X, hX⟩ : ∃ X, Cb.bs R = X := ⟨_, rfl⟩
        have HXR := hideIt hX
        rw [hX]
        by_cases hR : R = []
        · have x1 : X.toList = [] := by rw [← hX, hR, ByteArray.toList_eq, Cb.bs_list]
          have HRS : Hid (rowsL R0.length R0 = some la) := hideIt (by rw [HRW.out, hR]; cases k <;> simp [rowsL])
          obtain ⟨z, hz⟩ : ∃ z, chkR hd la = z := ⟨_, rfl⟩
          have HZ := hideIt hz
          have HCK := hideIt (check_any hd (.slice sa n sc) (la.take 257) wr (VRow.of_row HDM.out.row) (by rw [HN.out]; omega))
          rw [chk_take, hz] at HCK
          have d0 := cellAt (i := 0) HDM.out.box rfl
          have d1 := cellAt (i := 1) HDM.out.box rfl
          have hgR := HDM.out.lo
          clear hX hR hz hn hla
          by_cases h0 : z = 0
          · subst h0
            have HQ1 : Hid (decP S = (0, B, la)) := hideIt (by rw [HQ0.out, HRS.out]; simp only; rw [if_pos HZ.out])
            have HLL : Hid (la.take 257 = la) := hideIt (List.take_of_length_le (by have := (chkR_wf HZ.out).1; omega))
            go_wp2_with (first | (go_at_call 36; refine HCK.out.mono ?_; rintro e w3 ⟨rfl, hb3⟩; have H3 := hideIt (HDM.out.below hb3); have e0 := cellAt (i := 0) H3.out.box rfl; have e1 := cellAt (i := 1) H3.out.box rfl; have q0 := cellAt (i := 0) H3.out.res rfl; have q1 := cellAt (i := 1) H3.out.res rfl; have z0 := frz H3.out.res 0; have z1 := frz H3.out.res 1; clear hb3))
            (try simp only [Exit.inBlock, Exit.then])
            refine bodyPost_ret (v := .tuple #[.agg #[.string hd, .slice sa n sc], .int .i64 0]) ?_ rfl ((HTO.out _ _).2 ⟨.slice sa n sc, by rw [HQ1.out, HHD.out], ?_, ?_⟩)
            · rw [results_c2 rfl]
              go_simp
            · rw [HQ1.out]
              have hrow := H3.out.row
              rw [HLL.out] at hrow
              have hl := H3.out.lo
              exact VRow.of_row (own_other (own_other hrow ⟨w.heap.size, 0, none⟩ (by show w.heap.size < g + 1; omega) _) ⟨w.heap.size, 1, none⟩ (by show w.heap.size < g + 1; omega) _)
            · exact (H3.out.bel.setCell (p := ⟨w.heap.size, 0, none⟩) (Nat.le_refl _) _).setCell (p := ⟨w.heap.size, 1, none⟩) (Nat.le_refl _) _
          · have HQ1 : Hid (decP S = (z, [], [])) := hideIt (by rw [HQ0.out, HRS.out]; simp only; rw [if_neg (by rw [HZ.out]; exact h0), HZ.out])
            have z2 : (z == 0) = false := by simpa using h0
            go_wp2_with (first | (go_at_call 36; refine HCK.out.mono ?_; rintro e w3 ⟨rfl, hb3⟩; have H3 := hideIt (HDM.out.below hb3); have q0 := cellAt (i := 0) H3.out.res rfl; have q1 := cellAt (i := 1) H3.out.res rfl; have z0 := frz H3.out.res 0; have z1 := frz H3.out.res 1; clear hb3))
            (try simp only [Exit.inBlock, Exit.then])
            refine bodyPost_ret (v := .tuple #[.agg #[.string ⟨#[]⟩, .slice none 0 0], .int .i64 z]) ?_ rfl (HBAD.out _ _ HQ1.out ?_)
            · rw [results_c2 rfl]
              go_simp
            · exact (H3.out.bel.setCell (p := ⟨w.heap.size, 0, none⟩) (Nat.le_refl _) _).setCell (p := ⟨w.heap.size, 1, none⟩) (Nat.le_refl _) _
        · have x1 : ¬ X.toList = [] := by rw [← hX, ByteArray.toList_eq, Cb.bs_list]; exact hR
          have x2 : (X.toList == []) = false := beq_eq_false_iff_ne.2 x1
          have hlR := line_le R
          have HST : Hid (∀ k', k = k' + 1 → rowsL k R = match lineRef R with
            | some x => (rowsL k' (lineL R).2.2.1).map (x :: ·)
            | none => none) := hideIt (fun k' e => by rw [e]; exact rows_step k' R hR)
          have hk1 : 1 ≤ k := by cases R with | nil => exact absurd rfl hR | cons _ _ => simp at hk; omega
          obtain ⟨k', hk'⟩ : ∃ k', k = k' + 1 := ⟨k - 1, by omega⟩
          have HRK := hideIt (HST.out k' hk')
          have HKK := hideIt hk'
          have HMW : Hid (MaxR wr) := hideIt (HMX.out.below HDM.out.bel)
          have HLR := hideIt (line_any R wr (by omega) HMW.out)
          rw [hX] at HLR
          have HLF : Hid (lineRef R = if (lineL R).2.2.2 = true then match Cd.unhexL (lineL R).1 with
            | some id => if id.length = 32 then some ⟨Cb.bs (lineL R).2.1, Cb.bs id⟩ else none
            | none => none
            else none) := hideIt rfl
          obtain ⟨a, b, r, is2, hln⟩ : ∃ a b r is, lineL R = (a, b, r, is) := ⟨_, _, _, _, rfl⟩
          rw [hln] at hlR HRK HLR HLF
          simp only at hlR HRK HLR HLF
          obtain ⟨I, E, hIE, hcs⟩ := unhexV_two (Cd.unhexL a)
          have HUN : Hid (∀ w : World, Calls Tryz.prog 82 #[.string (Cb.bs a)] w fun e w' => e = .returned (.tuple #[.string I, .int .i64 E]) ∧ Below w.heap.size w w') := hideIt (fun w => by
            have := unhex_any (Cb.bs a) w (by rw [Cb.bs_size]; omega)
            rw [Cb.bs_list, hIE] at this
            exact this)
          obtain ⟨l1, l2, l3, l4⟩ := hlR
          obtain ⟨TA2, hTA2⟩ : ∃ T, Cb.bs a = T := ⟨_, rfl⟩
          obtain ⟨TB2, hTB2⟩ : ∃ T, Cb.bs b = T := ⟨_, rfl⟩
          obtain ⟨TR2, hTR2⟩ : ∃ T, Cb.bs r = T := ⟨_, rfl⟩
          have HTB := hideIt hTB2
          have HTR := hideIt hTR2
          rw [hTA2, hTB2, hTR2] at HLR
          rw [hTA2] at HUN
          have HNO : Hid (lineRef R = none → decP S = (6, [], [])) := hideIt (fun e => by
            rw [HQ0.out, HRW.out, HRK.out, e]
            rfl)
          have HCB := hideIt (fun w => clone_any TB2 w (by rw [← hTB2, Cb.bs_size]; omega))
          have HMY := hideIt (fun w => mayBeID_any I w)
          have HCS := hideIt hcs
          clear hX hR hTA2 hTB2 hTR2 hln hIE hcs HST hk'
          have HCSO := hideIt (HCS.out)
          cases is2
          · have HQ : Hid (decP S = (6, [], [])) := hideIt (HNO.out (by rw [HLF.out, if_neg (by simp)]))
            go_wp2_with (first
              | (go_at_call 81; refine HLR.out.mono ?_; rintro e w3 ⟨rfl, hb3⟩; have H3 := hideIt (HDM.out.below hb3); clear hb3)
              | (go_at_call 82; refine (HUN.out _).mono ?_; rintro e w4 ⟨rfl, hb4⟩; have H4 := hideIt (H3.out.below hb4); have H5 := H4; have q0 := cellAt (i := 0) H5.out.res rfl; have q1 := cellAt (i := 1) H5.out.res rfl; have z0 := frz H5.out.res 0; have z1 := frz H5.out.res 1; clear hb4))
            (try simp only [Exit.inBlock, Exit.then])
            refine bodyPost_ret (v := .tuple #[.agg #[.string ⟨#[]⟩, .slice none 0 0], .int .i64 6]) ?_ rfl (HBAD.out _ _ HQ.out ?_)
            · rw [results_c2 rfl]
              go_simp
            · exact (H5.out.bel.setCell (p := ⟨w.heap.size, 0, none⟩) (Nat.le_refl _) _).setCell (p := ⟨w.heap.size, 1, none⟩) (Nat.le_refl _) _
          · rcases HCS.out with ⟨hun, hE⟩ | ⟨t, hun, hI, hE⟩
            · subst hE
              have HQ : Hid (decP S = (6, [], [])) := hideIt (HNO.out (by rw [HLF.out, if_pos rfl, hun]))
              clear hun
              go_wp2_with (first
                | (go_at_call 81; refine HLR.out.mono ?_; rintro e w3 ⟨rfl, hb3⟩; have H3 := hideIt (HDM.out.below hb3); clear hb3)
                | (go_at_call 82; refine (HUN.out _).mono ?_; rintro e w4 ⟨rfl, hb4⟩; have H4 := hideIt (H3.out.below hb4); have H5 := H4; have q0 := cellAt (i := 0) H5.out.res rfl; have q1 := cellAt (i := 1) H5.out.res rfl; have z0 := frz H5.out.res 0; have z1 := frz H5.out.res 1; clear hb4))
              (try simp only [Exit.inBlock, Exit.then])
              refine bodyPost_ret (v := .tuple #[.agg #[.string ⟨#[]⟩, .slice none 0 0], .int .i64 6]) ?_ rfl (HBAD.out _ _ HQ.out ?_)
              · rw [results_c2 rfl]
                go_simp
              · exact (H5.out.bel.setCell (p := ⟨w.heap.size, 0, none⟩) (Nat.le_refl _) _).setCell (p := ⟨w.heap.size, 1, none⟩) (Nat.le_refl _) _
            · subst hE
              have HUH := hideIt hun
              have HII := hideIt hI
              clear hun hI
              obtain ⟨f, hf⟩ : ∃ f, decide (I.size = 32) = f := ⟨_, rfl⟩
              rw [hf] at HMY
              cases f
              · have hf2 := of_decide_eq_false hf
                have HQ : Hid (decP S = (6, [], [])) := hideIt (HNO.out (by rw [HLF.out, if_pos rfl, HUH.out]; simp only; rw [if_neg (by rw [HII.out, Cb.bs_size] at hf2; exact hf2)]))
                clear hf hf2
                go_wp2_with (first
                  | (go_at_call 81; refine HLR.out.mono ?_; rintro e w3 ⟨rfl, hb3⟩; have H3 := hideIt (HDM.out.below hb3); clear hb3)
                  | (go_at_call 82; refine (HUN.out _).mono ?_; rintro e w4 ⟨rfl, hb4⟩; have H4 := hideIt (H3.out.below hb4); clear hb4)
                  | (go_at_call 62; refine (HMY.out _).mono ?_; rintro e w5 ⟨rfl, hb5⟩; have H5 := hideIt (H4.out.below hb5); have q0 := cellAt (i := 0) H5.out.res rfl; have q1 := cellAt (i := 1) H5.out.res rfl; have z0 := frz H5.out.res 0; have z1 := frz H5.out.res 1; clear hb5))
                (try simp only [Exit.inBlock, Exit.then])
                refine bodyPost_ret (v := .tuple #[.agg #[.string ⟨#[]⟩, .slice none 0 0], .int .i64 6]) ?_ rfl (HBAD.out _ _ HQ.out ?_)
                · rw [results_c2 rfl]
                  go_simp
                · exact (H5.out.bel.setCell (p := ⟨w.heap.size, 0, none⟩) (Nat.le_refl _) _).setCell (p := ⟨w.heap.size, 1, none⟩) (Nat.le_refl _) _
              · have hf2 := of_decide_eq_true hf
                have HROW : Hid (rowsL R0.length R0 = (rowsL k' r).map ((la ++ [Rf.mk TB2 I]) ++ ·)) := hideIt (by
                  have e : lineRef R = some ⟨TB2, I⟩ := by rw [HLF.out, if_pos rfl, HUH.out]; simp only; rw [if_pos (by rw [HII.out, Cb.bs_size] at hf2; exact hf2), HII.out, HTB.out]
                  rw [HRW.out, HRK.out, e]
                  simp only [Option.map_map]
                  congr 1
                  funext t
                  simp)
                have hl4 := l4 rfl
                clear hf hf2
                by_cases h256 : n ≤ 256
                · have h256i : (n : Int) ≤ 256 := by omega
                  have d256 : decide ((n : Int) ≤ 256) = true := decide_eq_true h256i
                  have HTK : Hid ((la ++ [Rf.mk TB2 I]).take 257 = la.take 257 ++ [Rf.mk TB2 I]) := hideIt (take_more la _ (HLA.out.2 h256))
                  obtain ⟨i0, hi0, hz0, hz1, hz2⟩ := info_parts infoRf
                  go_wp2_with (first
                    | (go_at_call 81; refine HLR.out.mono ?_; rintro e w3 ⟨rfl, hb3⟩; have H3 := hideIt (HDM.out.below hb3); clear hb3)
                    | (go_at_call 82; refine (HUN.out _).mono ?_; rintro e w4 ⟨rfl, hb4⟩; have H4 := hideIt (H3.out.below hb4); clear hb4)
                    | (go_at_call 62; refine (HMY.out _).mono ?_; rintro e w5 ⟨rfl, hb5⟩; have H5 := hideIt (H4.out.below hb5); have q1 := cellAt (i := 1) H5.out.box rfl; clear hb5))
                  go_region_law (first
                    | (refine Cb.step_append_own (by rfl) _ _ 35 (by rfl) (g + 1) 65 i0 (.agg #[.string ⟨#[]⟩, .string ⟨#[]⟩]) 2 32 Tryz.underlying35 hi0 hz0 hz1 hz2 rfl (by decide) _ n _ (by rfl) (G6.out.row_new HN.out _) ⟨w6.heap.size, 0, none⟩ 1 1 (rfV (Rf.mk TB2 I)) (by rfl) rfl (one_ref w6 TB2 I) (fun u hu => rfsV_one [Rf.mk TB2 I] u (by simpa [rfsV] using hu)) (by unfold maxLen; omega) (by omega) (by have := G6.out.hi; simp; omega) ?_; intro v3 w7 hown7 hg7; obtain ⟨g7, cp7, rfl⟩ := row_form2 hown7; have A7 := hideIt (G6.out.append_n HN.out (Rf.mk TB2 I) hg7 hown7); have x1 := A7.out.1.1; have y1 := A7.out.1.2; clear hown7 hg7)
                    | (go_simp; go_at_call 66; refine (HCB.out _).mono ?_; rintro e w6 ⟨rfl, hb6⟩; dsimp only; have G6 := hideIt (H5.out.drew.below hb6); have m1 := cellAt (i := 1) G6.out.box rfl; have m2 := cellAt (i := 1) (G6.out.below (new_below w6 (.cells #[.string TB2, .string I] 65))).box rfl; clear hb6))
                  all_goals go_wp2
                  all_goals go_roundw
                  all_goals first
                    | exact ⟨r, k', la ++ [Rf.mk TB2 I], _, by rw [HTR.out], by have := HKK.out; omega, by simp; omega, by rw [HTK.out]; exact A7.out.2, HROW.out⟩
                    | (rw [← HXR.out, ← HTR.out]; simp only [lenS, Cb.bs_size]; omega)
                · have h256i : ¬ (n : Int) ≤ 256 := by omega
                  have d256 : decide ((n : Int) ≤ 256) = false := decide_eq_false h256i
                  have HTK : Hid ((la ++ [Rf.mk TB2 I]).take 257 = la.take 257) := hideIt (take_same la _ (fun h => h256 (HLA.out.1 h)))
                  go_wp2_with (first
                    | (go_at_call 81; refine HLR.out.mono ?_; rintro e w3 ⟨rfl, hb3⟩; have H3 := hideIt (HDM.out.below hb3); clear hb3)
                    | (go_at_call 82; refine (HUN.out _).mono ?_; rintro e w4 ⟨rfl, hb4⟩; have H4 := hideIt (H3.out.below hb4); clear hb4)
                    | (go_at_call 62; refine (HMY.out _).mono ?_; rintro e w5 ⟨rfl, hb5⟩; have H5 := hideIt (H4.out.below hb5); have q1 := cellAt (i := 1) H5.out.box rfl; clear hb5))
                  go_roundw
                  all_goals first
                    | exact ⟨r, k', la ++ [Rf.mk TB2 I], _, by rw [HTR.out], by have := HKK.out; omega, by simp; omega, by rw [HTK.out]; exact H5.out, HROW.out⟩
                    | (rw [← HXR.out, ← HTR.out]; simp only [lenS, Cb.bs_size]; omega)
    · rw [decide_eq_false hh] at hw
      have HQ : Hid (decP S = (6, [], [])) := hideIt (by rw [HP.out, if_neg (by simp [hh])])
      go_enter Tryz.func57, Tryz.ntmps57
      go_wp2_with (first | (go_at_call 81; rw [HW.out]; refine HL.out.mono ?_; rintro e w1 ⟨rfl, hb1⟩; have hr := HF.out _ hb1; have q0 := cellAt (i := 0) hr rfl; have q1 := cellAt (i := 1) hr rfl; have z0 := frz hr 0; have z1 := frz hr 1; have HB1 := hideIt hb1; clear hb1 hr))
      refine bodyPost_ret (v := .tuple #[.agg #[.string ⟨#[]⟩, .slice none 0 0], .int .i64 6]) ?_ rfl (HBAD.out _ _ HQ.out (HBW.out _ HB1.out))
      rw [results_c2 rfl]
      go_simp
end Go.Proofs.YtknmmlfdlfioiaaGreatDoor.Rf
