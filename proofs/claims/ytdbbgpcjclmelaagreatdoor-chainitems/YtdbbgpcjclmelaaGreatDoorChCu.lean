/- Chains: the waking test: walked. -/
import Derived.Test.YtdbbgpcjclmelaaGreatDoorChCt
import Derived.Deep.RegionHeld3
namespace Go.Proofs.YtdbbgpcjclmelaaGreatDoor.Ch
open Cb Go.RowKit Go.Shelf Go.Maps
theorem two_row {w : World} {t : TypeId} (x y : Value) : VRow 1 (w.alloc (.cells #[x, y] t)) (.slice (some ⟨w.heap.size, 0, none⟩) 2 2) 2 [x, y] :=
  ⟨rfl, _, _, rfl, Nat.le_refl _, ⟨by decide, fun h => by cases h⟩, fun _ => ⟨_, 0, rfl, by simp, fun i u hu => by
    rw [Nat.zero_add]
    exact cellAt (alloc_at rfl) (by simpa using hu)⟩⟩
theorem aw_sx {w : World} {v : Value} (hr : VRow 3 w v ((itms [awX, awY] [-1, 0] 2).1).length (imsV (itms [awX, awY] [-1, 0] 2).1)) (hk : Ob.Ok w) : Sx w v [awX, awY] (itms [awX, awY] [-1, 0] 2).1 (parOf [awX, awY] [-1, 0]) (dpOf [awX, awY] [-1, 0]) := by
  refine ⟨hr, fst_itms aw_apart, fun i h => dp_none h, fun i k h => dp_some h, fun i r h => ?_, by decide, hk, fun i r h X hX => ?_⟩
  · rcases List.mem_cons.1 (List.mem_of_getElem? h) with rfl | h'
    · decide
    · rw [List.mem_singleton.1 h']
      decide
  · rcases List.mem_cons.1 (List.mem_of_getElem? h) with rfl | h'
    · have := links_blb aw0 X hX
      rw [awX_is] at this
      exact this
    · rw [List.mem_singleton.1 h']
      have := links_blb aw1 X hX
      rw [awY_is] at this
      exact this
theorem aw_solve {w : World} {v : Value} (hr : VRow 3 w v ((itms [awX, awY] [-1, 0] 2).1).length (imsV (itms [awX, awY] [-1, 0] 2).1)) (hk : Ob.Ok w) :
    Calls Tryz.prog 22 #[v] w fun e w' => ∃ v1 a2 c2, e = .returned (.tuple #[v1, .slice a2 2 c2, .int .i64 0]) ∧ TRow w' v1 [awX, awY] ∧ Below w.heap.size w w' := by
  refine (solve_any v _ _ _ _ w (aw_sx hr hk)).mono ?_
  rintro e w' (⟨⟨v1, v2, rfl, h1, ⟨_, a2, c2, rfl, _⟩⟩, _, hb⟩ | ⟨_, ⟨i, _, h12⟩, _⟩)
  · exact ⟨v1, a2, c2, rfl, h1, hb⟩
  · exact absurd h12 (by have := dp_le (raws := [awX, awY]) (bases := [-1, 0]) (i := i); omega)
set_option maxHeartbeats 1600000 in
set_option maxRecDepth 100000 in
theorem awake_any (w : World) (hk : Ob.Ok w) : Calls Tryz.prog 9 #[] w fun e w' => e = .returned (.bool true) ∧ Below w.heap.size w w' := by
  have HB0 : Hid (Below w.heap.size w (w.alloc (.cells #[.string aw0, .string aw1] 9))) := hideIt ((Below.refl _ _).alloc (Nat.le_refl _) _)
  have HBL := hideIt (blobs_any (.slice (some ⟨w.heap.size, 0, none⟩) 2 2) [aw0, aw1] 2 (w.alloc (.cells #[.string aw0, .string aw1] 9)) (two_row _ _) (by omega))
  rw [aw_blobs] at HBL
  have HOK := hideIt (fun w' (hb : Below w.heap.size w w') => hk.below hb)
  have HIT := hideIt (fun v X (ht : TRow X v [awX, awY]) (ho : Ob.Ok X) => items_any v (.slice (some ⟨X.heap.size, 0, none⟩) 2 2) [awX, awY] [-1, 0] (X.alloc (.cells #[.int .i64 (-1), .int .i64 0] 3)) (VRow.below ht ((Below.refl _ _).alloc (Nat.le_refl _) _)) (two_row _ _) (ho.below ((Below.refl _ _).alloc (Nat.le_refl _) _)) (by decide) (fun x hx => by
    rcases List.mem_cons.1 hx with rfl | hx
    · decide
    · rw [List.mem_singleton.1 hx]
      decide))
  have HSO := hideIt (fun v X hr ho => aw_solve (w := X) (v := v) hr ho)
  have HID := hideIt (fun X => Ob.refid_any awX X (by decide))
  have HIA : Hid ((itms [awX, awY] [-1, 0] 2).1.length = 2 ∧ (imsV (itms [awX, awY] [-1, 0] 2).1)[1 * 3]? = some (.string (shaB awX))) := hideIt ⟨(itms_len _ _ _).1, (imsV_at _ 1 _ aw_base).1⟩
  change Hid (∀ X, Calls Tryz.prog 20 #[.string awX] X fun e w' => e = .returned (.string (shaB awX)) ∧ Below X.heap.size X w') at HID
  change Hid (∀ v X, TRow X v [awX, awY] → Ob.Ok X → Calls Tryz.prog 7 #[v, .slice (some ⟨X.heap.size, 0, none⟩) 2 2] (X.alloc (.cells #[.int .i64 (-1), .int .i64 0] 3)) fun e w' => ItTo (X.alloc (.cells #[.int .i64 (-1), .int .i64 0] 3)) (itms [awX, awY] [-1, 0] 2).1 e w') at HIT
  generalize (itms [awX, awY] [-1, 0] 2).1 = L at HIT HSO HIA
  generalize shaB awX = S at HID HIA
  generalize awX = X0 at HBL HIT HSO HID
  generalize awY = Y0 at HBL HIT HSO
  unfold aw0 aw1 at HBL HB0
  clear hk
  go_enter Tryz.func9, Tryz.ntmps9
  go_wp2_with (first
    | (go_at_call 6; refine HBL.out.mono ?_; rintro e w1 ⟨v1, rfl, hv1, hb1⟩; have T1 := hideIt (show TRow w1 v1 [X0, Y0] from VRow.of_row hv1); have B1 := hideIt (HB0.out.trans (hb1.mono HB0.out.size)); clear hv1 hb1)
    | (go_at_call 7; refine (HIT.out _ _ T1.out (HOK.out _ B1.out)).mono ?_; rintro e w3 ⟨v3, rfl, hv3, hb3⟩; have V3 := hideIt hv3; have hb4 := (Below.refl w1.heap.size w1).alloc (Nat.le_refl _) (.cells #[.int .i64 (-1), .int .i64 0] 3); have hb5 := hb4.trans (hb3.mono hb4.size); have T3 := hideIt (VRow.below T1.out hb5); have B3 := hideIt (below2 B1.out hb5); clear hv3 hb3 hb4 hb5)
    | (go_at_call 22; refine (HSO.out _ _ V3.out (HOK.out _ B3.out)).mono ?_; rintro e w5 ⟨v5, a5, c5, rfl, ht5, hb5⟩; have T5 := hideIt ht5; have V5 := hideIt (V3.out.below hb5); have T6 := hideIt (VRow.below T3.out hb5); have B5 := hideIt (below2 B3.out hb5); clear ht5 hb5))
  obtain ⟨_, a1, c1, e1, hc1, ⟨hm1, _⟩, hr1⟩ := T6.out
  obtain ⟨_, a3, c3, e3, hc3, ⟨hm3, _⟩, hr3⟩ := V5.out
  obtain ⟨_, a4, c4, e4, hc4, ⟨hm4, _⟩, hr4⟩ := T5.out
  rw [HIA.out.1] at e3 hc3 hr3
  obtain ⟨b1, o1, rfl, hl1⟩ := hr1 (by simp)
  obtain ⟨b3, o3, rfl, hl3⟩ := hr3 (by decide)
  obtain ⟨b4, o4, rfl, hl4⟩ := hr4 (by simp)
  change v1 = .slice (some ⟨b1, o1, none⟩) 2 c1 at e1
  change v5 = .slice (some ⟨b4, o4, none⟩) 2 c4 at e4
  change 2 ≤ c1 at hc1
  change 2 ≤ c4 at hc4
  have d0 := hl1.2 0 _ rfl
  have d1 := hl1.2 1 _ rfl
  have d3 := hl3.2 (1 * 3) _ HIA.out.2
  have d4 := hl4.2 1 _ rfl
  rw [Nat.add_zero] at d0
  rw [Nat.one_mul] at d3
  have lt1 := hl1.1
  have lt3 := hl3.1
  have lt4 := hl4.1
  have HSS : Hid (∀ X, Below w5.heap.size w5 X → X.cell? ⟨b1, o1, none⟩ = some (.string X0) ∧ X.cell? ⟨b1, o1 + 1, none⟩ = some (.string Y0) ∧ X.cell? ⟨b3, o3 + 3, none⟩ = some (.string S) ∧ X.cell? ⟨b4, o4 + 1, none⟩ = some (.string Y0)) := hideIt (fun X hX => ⟨by rw [hX.cell (p := ⟨b1, o1, none⟩) lt1]; exact d0, by rw [hX.cell (p := ⟨b1, o1 + 1, none⟩) lt1]; exact d1, by rw [hX.cell (p := ⟨b3, o3 + 3, none⟩) lt3]; exact d3, by rw [hX.cell (p := ⟨b4, o4 + 1, none⟩) lt4]; exact d4⟩)
  subst e1
  subst e3
  subst e4
  unfold maxLen at hm1 hm3 hm4
  clear hr1 hr3 hr4 hl1 hl3 hl4 d0 d1 d3 d4 lt1 lt3 lt4 HBL HIT HSO HB0
  go_region_held3 (fun X => X.cell? ⟨b1, o1, none⟩ = some (.string X0) ∧ X.cell? ⟨b1, o1 + 1, none⟩ = some (.string Y0) ∧ X.cell? ⟨b3, o3 + 3, none⟩ = some (.string S) ∧ X.cell? ⟨b4, o4 + 1, none⟩ = some (.string Y0)) (first | (exact HSS.out _ (Below.refl _ _).drew) | assumption | (exact HSS.out _ BC.out))
    (first | (go_at_call 20; refine (HID.out _).mono ?_; rintro e w6 ⟨rfl, hb6⟩; have BC := hideIt ((Below.refl w5.heap.size w5).drew.trans hb6); clear hb6))
  all_goals go_wp2
  all_goals go_ret
  all_goals exact ⟨rfl, below2 B5.out BC.out⟩
end Go.Proofs.YtdbbgpcjclmelaaGreatDoor.Ch
