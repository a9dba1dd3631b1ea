/- The law ObjectFinds, walked. -/
import Derived.Test.YtmjffngpaoaflaaGreatDoorPt
namespace Go.Proofs.YtmjffngpaoaflaaGreatDoor
namespace Ob
open Go.RowKit Go.Shelf
theorem beq_same (s : ByteArray) : (s.toList == s.toList) = true := by simp
theorem flipC {P : Program} {f : Nat} {a : Array Value} {w : World} {v : Ending} (h : Calls P f a w fun e w' => e = v ∧ w' = w) : Calls P f a w fun e w' => e = v ∧ w = w' := h.mono fun _ _ h => ⟨h.1, h.2.symm⟩
set_option maxHeartbeats 3200000 in
set_option maxRecDepth 100000 in
theorem finds_law (s : ByteArray) (w : World) (hk : Ok w) (hs : s.size ≤ maxLen) :
    Calls Tryz.prog 6 #[.string s] w fun e w' => e = .returned (.bool true) ∧ Below w.heap.size w w' := by
  have HOK := hideIt hk
  have HF := hideIt (fun w => flipC (few_any s w hs))
  have hsz := fewS_size s
  obtain ⟨F, hF⟩ : ∃ F, fewS s = F := ⟨_, rfl⟩
  rw [hF] at HF hsz
  obtain ⟨L, hL⟩ : ∃ L, F = bs L := of_bs F
  have hLl : L.length ≤ 5000 := by rw [← bs_size, ← hL]; exact hsz
  have HG := hideIt (fun w hm => getTag_any L w (by omega) hm)
  have HR := hideIt (fun w => refgetTag_any L w (by omega))
  have HA := hideIt awake_any
  have HPG : Hid ((gT L).2 = 0 → tagE (gT L).1 = 0 ∧ putT (gT L).1 = L ∧ (gT L).1.nm.size ≤ 5000) := hideIt (fun h => by
    obtain ⟨e1, e2, e3⟩ := put_get h
    rw [e1]
    refine ⟨e2, e3, ?_⟩
    show (bs (tkT nameW (tkR (tkR L)))).size ≤ 5000
    rw [bs_size]
    have a1 := tkT_len nameW (tkR (tkR L))
    have a2 := tkR_len (tkR L)
    have a3 := tkR_len L
    omega)
  obtain ⟨t, ht⟩ : ∃ t, (gT L).1 = t := ⟨_, rfl⟩
  obtain ⟨z, hz⟩ : ∃ z, (gT L).2 = z := ⟨_, rfl⟩
  rw [ht, hz] at HG HR HPG
  rw [← hL] at HG HR
  obtain ⟨tgt, kd, nm, tx⟩ := t
  unfold tgV at HG HR
  simp only at HG HR
  have q1 := beq_same tgt
  have q2 := beq_same nm
  have q3 := beq_same tx
  have q4 := beq_same F
  have HT : Hid (∀ (w1 : World) (T : TypeId), TBox (w1.alloc (.cells #[.string tgt, .int .i64 kd, .string nm, .string tx] T)) w1.heap.size T ⟨tgt, kd, nm, tx⟩) := hideIt (fun w1 T => TBox.new w1 T ⟨tgt, kd, nm, tx⟩)
  clear hk hs hF ht hz hsz
  by_cases h0 : z = 0
  · subst h0
    obtain ⟨p1, p2, p3⟩ := HPG.out rfl
    have HP := hideIt (fun w => refputTag_any ⟨tgt, kd, nm, tx⟩ w p1 (by simp only at p3 ⊢; omega))
    rw [p2, ← hL] at HP
    unfold tgV at HP
    simp only at HP
    clear p1 p2 p3 HPG hL
    go_enter Tryz.func6, Tryz.ntmps6
    go_wp2_with (first
      | (go_at_call 8; refine (HF.out _).mono ?_; rintro e w1 ⟨rfl, rfl⟩)
      | (go_at_call 21; refine (HG.out _ HOK.out.max).mono ?_; rintro e w2 ⟨rfl, hb2⟩; have T2 := hideIt (HT.out w2 58); have B2 := hideIt (below2 hb2 (new_below w2 (.cells #[.string tgt, .int .i64 kd, .string nm, .string tx] 58))))
      | (go_at_call 22; refine (HR.out _).mono ?_; rintro e w3 ⟨rfl, hb3⟩; have T3 := hideIt ((T2.out.below hb3).below (new_below w3 (.cells #[.string tgt, .int .i64 kd, .string nm, .string tx] 61))); have U3 := hideIt (HT.out w3 61); have B3 := hideIt (below2 (below2 B2.out hb3) (new_below w3 (.cells #[.string tgt, .int .i64 kd, .string nm, .string tx] 61))))
      | (go_at_call 12; refine (HA.out _ (HOK.out.below B3.out)).mono ?_; rintro e w4 ⟨rfl, hb4⟩; have T4 := hideIt (T3.out.below hb4); have U4 := hideIt (U3.out.below hb4); have B4 := hideIt (below2 B3.out hb4); have c40 := T4.out.c0; have c41 := T4.out.c1; have c42 := T4.out.c2; have c43 := T4.out.c3; have d40 := U4.out.c0; have d41 := U4.out.c1; have d42 := U4.out.c2; have d43 := U4.out.c3)
      | (go_at_call 23; refine (HP.out _).mono ?_; rintro e w5 ⟨rfl, hb5⟩))
    go_ret
    exact ⟨rfl, below2 B4.out hb5⟩
  · have z2 : (z != 0) = true := by simpa using h0
    have z1 : (z == z) = true := by simp
    clear HPG hL
    go_enter Tryz.func6, Tryz.ntmps6
    go_wp2_with (first
      | (go_at_call 8; refine (HF.out _).mono ?_; rintro e w1 ⟨rfl, rfl⟩)
      | (go_at_call 21; refine (HG.out _ HOK.out.max).mono ?_; rintro e w2 ⟨rfl, hb2⟩; have T2 := hideIt (HT.out w2 58); have B2 := hideIt (below2 hb2 (new_below w2 (.cells #[.string tgt, .int .i64 kd, .string nm, .string tx] 58))))
      | (go_at_call 22; refine (HR.out _).mono ?_; rintro e w3 ⟨rfl, hb3⟩; have T3 := hideIt ((T2.out.below hb3).below (new_below w3 (.cells #[.string tgt, .int .i64 kd, .string nm, .string tx] 61))); have U3 := hideIt (HT.out w3 61); have B3 := hideIt (below2 (below2 B2.out hb3) (new_below w3 (.cells #[.string tgt, .int .i64 kd, .string nm, .string tx] 61))))
      | (go_at_call 12; refine (HA.out _ (HOK.out.below B3.out)).mono ?_; rintro e w4 ⟨rfl, hb4⟩; have T4 := hideIt (T3.out.below hb4); have U4 := hideIt (U3.out.below hb4); have B4 := hideIt (below2 B3.out hb4); have c40 := T4.out.c0; have c41 := T4.out.c1; have c42 := T4.out.c2; have c43 := T4.out.c3; have d40 := U4.out.c0; have d41 := U4.out.c1; have d42 := U4.out.c2; have d43 := U4.out.c3))
    go_ret
    exact ⟨rfl, B4.out⟩
end Ob
end Go.Proofs.YtmjffngpaoaflaaGreatDoor
