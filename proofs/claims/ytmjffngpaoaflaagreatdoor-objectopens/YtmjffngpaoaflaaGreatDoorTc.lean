/- Trees: which entries may be one, walked; entries in memory. -/
import Derived.Test.YtmjffngpaoaflaaGreatDoorTw
import Derived.Laws.Cover1
namespace Go.Proofs.YtmjffngpaoaflaaGreatDoor
open Go.RowKit
/-- Entries that lie in memory one behind the other. -/
def ECells (w : World) (b o : Nat) (l : List En) : Prop := b < w.heap.size ∧ ∀ (i : Nat) (x : En), l[i]? = some x → w.cell? ⟨b, o + i * 3, none⟩ = some (.string x.nm) ∧ w.cell? ⟨b, o + i * 3 + 1, none⟩ = some (.int .i64 x.md) ∧ w.cell? ⟨b, o + i * 3 + 2, none⟩ = some (.string x.ids)
def ERow (w : World) (v : Value) (l : List En) : Prop := ∃ a c, v = .slice a l.length c ∧ l.length ≤ c ∧ (c ≤ maxLen ∧ (a = none → c = 0)) ∧ (0 < l.length → ∃ b o, a = some ⟨b, o, none⟩ ∧ ECells w b o l)
theorem ECells.below {w w' : World} {b o : Nat} {l : List En} (h : ECells w b o l) (hb : Below w.heap.size w w') : ECells w' b o l :=
  ⟨Nat.lt_of_lt_of_le h.1 hb.size, fun i x hx => by
    obtain ⟨h1, h2, h3⟩ := h.2 i x hx
    exact ⟨by rw [hb.cell (p := ⟨b, o + i * 3, none⟩) h.1]; exact h1, by rw [hb.cell (p := ⟨b, o + i * 3 + 1, none⟩) h.1]; exact h2, by rw [hb.cell (p := ⟨b, o + i * 3 + 2, none⟩) h.1]; exact h3⟩⟩
theorem ERow.below {w w' : World} {v : Value} {l : List En} (h : ERow w v l) (hb : Below w.heap.size w w') : ERow w' v l := by
  obtain ⟨a, c, h1, h2, h3, h4⟩ := h
  refine ⟨a, c, h1, h2, h3, fun h0 => ?_⟩
  obtain ⟨b, o, e, hc⟩ := h4 h0
  exact ⟨b, o, e, hc.below hb⟩
theorem below_drewN (w : World) (n : Nat) : Below w.heap.size w (w.drewN n) := ⟨rfl, rfl, rfl, Nat.le_refl _, fun _ _ => rfl⟩
theorem stuck_at {l : List En} {i j : Nat} {x y : En} {ls : Bool} (hj : i = j + 1) (hy : l[j]? = some y) (h : Op.bytesLess y.nm.toList x.nm.toList = ls) : stuck (before l i) x = !ls := by
  subst hj
  simp [before, hy, stuck, less, h]
theorem three_cells {w : World} {b : Nat} {x : En} {t : TypeId} {fr : Nat × Nat} (h : w.heap[b]? = some (.cells #[.string x.nm, .int .i64 x.md, .string x.ids] t fr)) : w.cell? ⟨b, 0, none⟩ = some (.string x.nm) ∧ w.cell? ⟨b, 1, none⟩ = some (.int .i64 x.md) ∧ w.cell? ⟨b, 2, none⟩ = some (.string x.ids) := ⟨cellAt h rfl, cellAt h rfl, cellAt h rfl⟩
set_option maxHeartbeats 1600000 in
set_option maxRecDepth 100000 in
theorem check_any (v : Value) (l : List En) (w : World) (h : ERow w v l) : Calls Tryz.prog 84 #[v] w fun e w' => e = .returned (.int .i64 (chk l)) ∧ Below w.heap.size w w' := by
  obtain ⟨a, c, rfl, hlc, hcm, hrow⟩ := h
  have HR := hideIt hrow
  have HCK : Hid (chk l = if 256 < l.length then 3 else chkF none l) := rfl
  obtain ⟨n, hn⟩ : ∃ n, l.length = n := ⟨_, rfl⟩
  rw [hn] at HCK hlc ⊢
  have HN := hideIt hn
  clear hrow
  by_cases hbig : 256 < n
  · have d1 : decide ((256 : Int) < (n : Int)) = true := decide_eq_true (by omega)
    have i1 : (256 : Int) < (n : Int) := by omega
    go_enter Tryz.func84, Tryz.ntmps84
    go_wp2
    go_ret
    exact ⟨by rw [HCK.out, if_pos hbig]; rfl, Below.refl _ _⟩
  · have d1 : decide ((256 : Int) < (n : Int)) = false := decide_eq_false (by omega)
    have i1 : ¬ (256 : Int) < (n : Int) := by omega
    have HCF : Hid (chk l = chkF none l) := hideIt (by rw [HCK.out, if_neg hbig])
    clear HCK
    have HE := hideIt (checkEntry_any)
    go_enter Tryz.func84, Tryz.ntmps84
    go_wp2
    go_loopw [11] (fun t wr => ∃ i : Nat, i ≤ n ∧ t = .int .i64 i ∧ chkF (before l i) (l.drop i) = chk l ∧ Below w.heap.size w wr) (fun t _ => n - (intOf t).toNat)
    case atStart => exact ⟨0, by omega, rfl, by rw [HCF.out]; rfl, Below.refl _ _⟩
    case round =>
      obtain ⟨i, hi, rfl, hck, hb⟩ := hrel
      by_cases hlt : i < n
      · have hid : decide ((i : Int) < (n : Int)) = true := decide_eq_true (by omega)
        have i2 : (i : Int) < (n : Int) := by omega
        obtain ⟨b, o, rfl, hcells⟩ := HR.out (by rw [HN.out]; omega)
        obtain ⟨x, hxi⟩ : ∃ x, l[i]? = some x := ⟨l[i]'(by rw [HN.out]; exact hlt), by simp⟩
        have hcr := hcells.below hb
        obtain ⟨c0, c1, c2⟩ := hcr.2 i x hxi
        have HB := hideIt hb
        have HCE := hideIt hcr
        have HST := hideIt (chk_step l i x hxi)
        clear hcells hcr hb
        have HCK2 := hideIt hck
        clear hck
        obtain ⟨W, hW⟩ : ∃ W, wr.alloc (.cells #[.string x.nm, .int .i64 x.md, .string x.ids] 95) = W := ⟨_, rfl⟩
        have hbox : W.heap[wr.heap.size]? = some (.cells #[.string x.nm, .int .i64 x.md, .string x.ids] 95 (0, 0)) := by rw [← hW]; exact alloc_at rfl
        have hbW : Below wr.heap.size wr W := by rw [← hW]; exact (Below.refl _ _).alloc (Nat.le_refl _) _
        have hlW : wr.heap.size < W.heap.size := by rw [← hW]; simp
        obtain ⟨k0, k1, k2⟩ := three_cells hbox
        have HK0 := hideIt k0
        have HBW := hideIt hbW
        have hE : Hid (∀ w, Calls Tryz.prog 103 #[.agg #[.string x.nm, .int .i64 x.md, .string x.ids]] w fun e w' => e = .returned (.int .i64 (chk1 x)) ∧ Below w.heap.size w w') := hideIt (HE.out x)
        have HQ : Hid (∀ w1, Below W.heap.size W w1 → Below w.heap.size w w1) := hideIt (fun w1 h1 => below2 HB.out (below2 HBW.out h1))
        clear hbW hbox
        obtain ⟨z, hz⟩ : ∃ z, chk1 x = z := ⟨_, rfl⟩
        rw [hz] at hE HST
        by_cases hz0 : z = 0
        · subst hz0
          by_cases h0 : i = 0
          · have n0 : ¬ (0 : Int) < (i : Int) := by omega
            have n1 : decide ((0 : Int) < (i : Int)) = false := decide_eq_false n0
            have n2 : ¬ 0 < i := by omega
            have HST2 : Hid (chkF (before l (i + 1)) (l.drop (i + 1)) = chk l) := hideIt (by
              rw [← HCK2.out, HST.out, if_neg (by simp), if_neg]
              subst h0
              simp [stuck, before])
            clear h0
            go_wp2_with (first | (go_at_call 103; refine (hE.out _).mono ?_; rintro e w1 ⟨rfl, hb1⟩; have e0 : w1.cell? ⟨wr.heap.size, 0, none⟩ = some (.string x.nm) := by rw [hb1.cell (p := ⟨wr.heap.size, 0, none⟩) hlW]; exact HK0.out))
            go_quiet (fail)
            go_wp2
            go_roundw
            case rel => exact ⟨i + 1, by omega, by go_num, HST2.out, below2 (HQ.out _ hb1) (below_drewN _ _)⟩
            case measure => simp [intOf]; omega
          · obtain ⟨j, hj⟩ : ∃ j, i = j + 1 := ⟨i - 1, by omega⟩
            have n0 : (0 : Int) < (i : Int) := by omega
            have n1 : decide ((0 : Int) < (i : Int)) = true := decide_eq_true n0
            have n2 : 0 < i := by omega
            have j1 : (i : Int) - 1 = (j : Int) := by omega
            have j2 : (j : Int) < (n : Int) := by omega
            have j3 : j < n := by omega
            obtain ⟨y, hyj⟩ : ∃ y, l[j]? = some y := ⟨l[j]'(by rw [HN.out]; exact j3), by simp⟩
            obtain ⟨ls, hls⟩ : ∃ ls, Op.bytesLess y.nm.toList x.nm.toList = ls := ⟨_, rfl⟩
            have HST2 : Hid ((if ls = false then 61 else chkF (before l (i + 1)) (l.drop (i + 1))) = chk l) := hideIt (by
              rw [← HCK2.out, HST.out, stuck_at hj hyj hls]
              cases ls <;> simp)
            have HY : Hid (∀ w1, Below W.heap.size W w1 → w1.cell? ⟨b, o + j * 3, none⟩ = some (.string y.nm)) := hideIt (fun w1 h1 => (((HCE.out.below HBW.out).below h1).2 j y hyj).1)
            clear h0 hj hyj
            cases ls with
            | false =>
              go_wp2_with (first | (go_at_call 103; refine (hE.out _).mono ?_; rintro e w1 ⟨rfl, hb1⟩; have y0 := HY.out _ hb1; have e0 : w1.cell? ⟨wr.heap.size, 0, none⟩ = some (.string x.nm) := by rw [hb1.cell (p := ⟨wr.heap.size, 0, none⟩) hlW]; exact HK0.out))
              go_quiet (fail)
              go_wp2
              go_ret
              exact ⟨by rw [← HST2.out]; rfl, below2 (HQ.out _ hb1) (below_drewN _ _)⟩
            | true =>
              go_wp2_with (first | (go_at_call 103; refine (hE.out _).mono ?_; rintro e w1 ⟨rfl, hb1⟩; have y0 := HY.out _ hb1; have e0 : w1.cell? ⟨wr.heap.size, 0, none⟩ = some (.string x.nm) := by rw [hb1.cell (p := ⟨wr.heap.size, 0, none⟩) hlW]; exact HK0.out))
              go_quiet (fail)
              go_wp2
              go_roundw
              case rel => exact ⟨i + 1, by omega, by go_num, HST2.out, below2 (HQ.out _ hb1) (below_drewN _ _)⟩
              case measure => simp [intOf]; omega
        · have z1 : (z == 0) = false := by simpa using hz0
          go_wp2_with (first | (go_at_call 103; refine (hE.out _).mono ?_; rintro e w1 ⟨rfl, hb1⟩))
          go_ret
          refine ⟨?_, HQ.out _ hb1⟩
          rw [← HCK2.out, HST.out, if_pos hz0]
          rfl
      · have hid : decide ((i : Int) < (n : Int)) = false := decide_eq_false (by omega)
        obtain rfl : i = n := by omega
        have HB := hideIt hb
        have HCK2 := hideIt hck
        clear hb hck
        go_wp2
        go_ret
        refine ⟨?_, HB.out⟩
        rw [← HCK2.out, ← HN.out, chk_end]
        rfl
end Go.Proofs.YtmjffngpaoaflaaGreatDoor
