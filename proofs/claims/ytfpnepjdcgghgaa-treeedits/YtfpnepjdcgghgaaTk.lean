/- Two entries there and back, walked. -/
import Derived.Test.YtfpnepjdcgghgaaTi
namespace Go.Proofs.Ytfpnepjdcgghgaa
open Go.RowKit Go.Shelf
def eA : En := ⟨⟨#[97]⟩, 1, idS 120⟩
def eB : En := ⟨⟨#[98]⟩, 3, idS 121⟩
theorem two_chk : chk [eA, eB] = 0 := by decide +kernel
theorem two_dec : dec (encL [eA, eB]) = (0, [eA, eB]) := by
  rw [dec_mk _ (fun x hx => ((chk_wf _ two_chk).2 x hx).1), if_neg (by decide), fin, two_chk]
  rfl
theorem two_up : Up [eA, eB] := by
  unfold Up
  simp only [List.pairwise_cons, List.mem_cons, List.not_mem_nil, or_false, forall_eq, List.Pairwise.nil, and_true, false_imp_iff, implies_true]
  decide +kernel
theorem two_look : lookE [eA, eB] ⟨#[98]⟩ = some eB := by
  have h1 : pos [eA, eB] ⟨#[98]⟩ = 1 := by decide +kernel
  have h2 : found [eA, eB] ⟨#[98]⟩ = true := by
    unfold found
    rw [h1]
    rfl
  unfold lookE
  rw [h2, h1]
  rfl
set_option maxHeartbeats 1600000 in
set_option maxRecDepth 100000 in
theorem awake_any (w : World) (hm : MaxAt w) : Calls Try.prog 12 #[] w fun e w' => e = .returned (.bool true) ∧ Below w.heap.size w w' := by
  have HI1 : Hid (∀ w, Calls Try.prog 19 #[.int .u8 120] w fun e w' => e = .returned (.string (idS 120)) ∧ Below w.heap.size w w') := hideIt (id_any 120)
  have HI2 : Hid (∀ w, Calls Try.prog 19 #[.int .u8 121] w fun e w' => e = .returned (.string (idS 121)) ∧ Below w.heap.size w w') := hideIt (id_any 121)
  have hls : (encL [eA, eB]).length ≤ 1000000 := by have := encL_len _ (chk_wf _ two_chk).2; simp at this; omega
  have HEN : Hid (∀ (v : Value) (w : World), ERow w v [eA, eB] → Calls Try.prog 9 #[v] w fun e w' => e = .returned (.tuple #[.string (bs (encL [eA, eB])), .int .i64 0]) ∧ Below w.heap.size w w') := hideIt (fun v w h => by
    have := encode_any v _ w h
    rw [encS, two_chk, if_pos rfl] at this
    exact this)
  have HDE : Hid (∀ (w : World), MaxAt w → Calls Try.prog 13 #[.string (bs (encL [eA, eB]))] w fun e w' => ∃ v, e = .returned (.tuple #[v, .int .i64 0]) ∧ ERow w' v [eA, eB] ∧ Below w.heap.size w w') := hideIt (fun w h => by
    have := decode_any _ hls w h
    unfold DecTo at this
    rw [two_dec] at this
    exact this)
  have HGE : Hid (∀ (v : Value) (w : World), ERow w v [eA, eB] → Calls Try.prog 18 #[v, .string ⟨#[98]⟩] w fun e w' => e = .returned (.tuple #[.agg #[.string ⟨#[98]⟩, .int .i64 3, .string (idS 121)], .bool true]) ∧ Below w.heap.size w w') := hideIt (fun v w h => by
    have := get_any v _ ⟨#[98]⟩ w h (by simp) two_up
    rw [two_look] at this
    exact this)
  have HROW : Hid (∀ w2 : World, ERow (w2.alloc (.cells #[.string ⟨#[97]⟩, .int .i64 1, .string (idS 120), .string ⟨#[98]⟩, .int .i64 3, .string (idS 121)] 36)) (.slice (some ⟨w2.heap.size, 0, none⟩) 2 2) [eA, eB]) := hideIt (fun w2 => by
    refine ⟨_, 2, rfl, by simp, ⟨by unfold maxLen; omega, fun h => by cases h⟩, fun _ => ⟨w2.heap.size, 0, rfl, by simp, fun i y hy => ?_⟩⟩
    have hr : (w2.alloc (.cells #[.string ⟨#[97]⟩, .int .i64 1, .string (idS 120), .string ⟨#[98]⟩, .int .i64 3, .string (idS 121)] 36)).heap[w2.heap.size]? = some (.cells #[.string ⟨#[97]⟩, .int .i64 1, .string (idS 120), .string ⟨#[98]⟩, .int .i64 3, .string (idS 121)] 36 (0, 0)) := alloc_at rfl
    match i, hy with
    | 0, hy => simp at hy; subst hy; exact ⟨cellAt hr rfl, cellAt hr rfl, cellAt hr rfl⟩
    | 1, hy => simp at hy; subst hy; exact ⟨cellAt hr rfl, cellAt hr rfl, cellAt hr rfl⟩
    | i + 2, hy => simp at hy)
  have HM := hideIt hm
  obtain ⟨S, hS⟩ : ∃ S, bs (encL [eA, eB]) = S := ⟨_, rfl⟩
  rw [hS] at HEN HDE
  obtain ⟨X, hX⟩ : ∃ X, idS 120 = X := ⟨_, rfl⟩
  obtain ⟨Y, hY⟩ : ∃ Y, idS 121 = Y := ⟨_, rfl⟩
  have HXX := hideIt hX
  have HYY := hideIt hY
  rw [hX] at HI1 HROW
  rw [hY] at HI2 HROW HGE
  have HCE : Hid (∀ (w : World) (v : Value), ERow w v [eA, eB] → ∃ b o c, v = .slice (some ⟨b, o, none⟩) 2 c ∧ 2 ≤ c ∧ w.cell? ⟨b, o, none⟩ = some (.string ⟨#[97]⟩) ∧ w.cell? ⟨b, o + 1, none⟩ = some (.int .i64 1) ∧ w.cell? ⟨b, o + 2, none⟩ = some (.string X) ∧ w.cell? ⟨b, o + 3, none⟩ = some (.string ⟨#[98]⟩) ∧ w.cell? ⟨b, o + 4, none⟩ = some (.int .i64 3) ∧ w.cell? ⟨b, o + 5, none⟩ = some (.string Y)) := hideIt (fun w v h => by
    obtain ⟨a, c, rfl, h1, _, h2⟩ := h
    obtain ⟨b, o, rfl, hc⟩ := h2 (by simp)
    obtain ⟨c0, c1, c2⟩ := hc.2 0 eA rfl
    obtain ⟨d0, d1, d2⟩ := hc.2 1 eB rfl
    rw [← HXX.out, ← HYY.out]
    exact ⟨b, o, c, rfl, h1, c0, c1, c2, d0, d1, d2⟩)
  clear hm hS hX hY hls
  go_enter Try.func12, Try.ntmps12
  go_wp2_with (first
    | (go_at_call_of 19 (Value.int .u8 120); refine (HI1.out _).mono ?_; rintro e w1 ⟨rfl, hb1⟩)
    | (go_at_call 19; refine (HI2.out _).mono ?_; rintro e w2 ⟨rfl, hb2⟩; have hr2 := HROW.out w2; have HB2 := hideIt (below2 (below2 hb1 hb2) ((Below.refl _ w2).alloc (Nat.le_refl _) (.cells #[.string ⟨#[97]⟩, .int .i64 1, .string X, .string ⟨#[98]⟩, .int .i64 3, .string Y] 36))); clear hb1 hb2)
    | (go_at_call 9; refine (HEN.out _ _ hr2).mono ?_; rintro e w3 ⟨rfl, hb3⟩; have HB3 := hideIt (below2 HB2.out hb3); have hr3 := hr2.below hb3; clear hb3 hr2)
    | (go_at_call 13; refine (HDE.out _ (HM.out.below HB3.out)).mono ?_; rintro e w4 ⟨v4, rfl, hrow4, hb4⟩; have HB4 := hideIt (below2 HB3.out hb4); have hr4 := hr3.below hb4; clear hb4 hr3)
    | (go_at_call 18; refine (HGE.out _ _ hrow4).mono ?_; rintro e w5 ⟨rfl, hb5⟩; have HB5 := hideIt (below2 HB4.out hb5); have hr5 := hr4.below hb5; have hrow5 := hrow4.below hb5; clear hb5 hr4 hrow4))
  have hal : Below w5.heap.size w5 (w5.alloc (.cells #[.string ⟨#[98]⟩, .int .i64 3, .string Y] 36)) := (Below.refl _ _).alloc (Nat.le_refl _) _
  obtain ⟨b5, o5, c5, rfl, hc5, x0, x1, x2, x3, x4, x5⟩ := HCE.out _ _ (hrow5.below hal)
  obtain ⟨b6, o6, c6, e6, _, y0, y1, y2, y3, y4, y5⟩ := HCE.out _ _ (hr5.below hal)
  simp only [Value.slice.injEq, Option.some.injEq, Addr.mk.injEq] at e6
  obtain ⟨⟨rfl, rfl, -⟩, -, rfl⟩ := e6
  simp only [Nat.zero_add] at y1 y2 y3 y4 y5
  have HB6 := hideIt (below2 HB5.out hal)
  clear hal hrow5 hr5
  go_quiet (fail)
  go_wp2
  go_ret
  exact ⟨rfl, below2 HB6.out (below_drewN _ _)⟩
end Go.Proofs.Ytfpnepjdcgghgaa
