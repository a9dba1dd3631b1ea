/- Refs: why an update may not be done: walked. -/
import Derived.Test.YtecdjejemohkgaaRfRm
import Derived.Test.YtecdjejemohkgaaRfRc
import Derived.BigQuiet
import Derived.Deep.CutRange
namespace Go.Proofs.Ytecdjejemohkgaa.Rf
open Cb Go.RowKit
/-- What is done of an update, behind what may be asked for. -/
def why2 (hd : ByteArray) (l : List Rf) (u : Up) (f : ByteArray → ByteArray → Bool) : Int :=
  if ¬ getR l u.nm = u.old then 130 else if emp u.new = true ∧ u.nm = hd then 132
  else if emp u.new = true ∨ emp u.old = true ∨ u.new = u.old ∨ u.force = true then 0
  else if headB u.nm = false then 133 else if f u.old u.new = false then 131 else 0
/-- Why an update may not be done. -/
def upd (hd : ByteArray) (l : List Rf) (ahead : List Up) (u : Up) (f : ByteArray → ByteArray → Bool) : Int := if ask ahead u = 0 then why2 hd l u f else ask ahead u
set_option maxHeartbeats 6400000 in
set_option maxRecDepth 100000 in
theorem checkUpdate_any (hd : ByteArray) (v va : Value) (l : List Rf) (la : List Up) (u : Up) (k : Nat) (lb : Array Value) (f : ByteArray → ByteArray → Bool) (w : World) (h : RRow w v l) (hl : l.length ≤ 100000) (ha : URow w va la) (hla : la.length ≤ 100000) (hf : Fwd w k lb f) (hs : ∀ (i : Nat) (x : Rf), l[i]? = some x → x.id.size ≤ 281474976710656) :
    Calls Try.prog 25 #[.agg #[.string hd, v], va, upA u, .func (.func k) #[] lb] w fun e w' => e = .returned (.int .i64 (upd hd l la u f)) ∧ Below w.heap.size w w' := by
  obtain ⟨W, hW⟩ : ∃ W, (w.alloc (.cells #[.string hd, v] 24)).alloc (.cells #[.string u.nm, .string u.old, .string u.new, .bool u.force] 34) = W := ⟨_, rfl⟩
  have hb : Below w.heap.size w W := by rw [← hW]; exact ((Below.refl _ w).alloc (Nat.le_refl _) _).alloc (by simp) _
  have hsz : W.heap.size = w.heap.size + 2 := by rw [← hW]; simp
  have hbx : UBox W (w.heap.size + 1) u := by rw [← hW]; exact alloc_at (by simp)
  have hg0 : W.heap[w.heap.size]? = some (.cells #[.string hd, v] 24) := by
    rw [← hW]
    have := ((Below.refl (w.heap.size + 1) (w.alloc (.cells #[.string hd, v] 24))).alloc (by simp) (.cells #[.string u.nm, .string u.old, .string u.new, .bool u.force] 34)).block w.heap.size (by omega)
    rw [this]
    exact alloc_at rfl
  have HF : Hid (∀ w', Below W.heap.size W w' → (w'.cell? ⟨w.heap.size, 0, none⟩ = some (.string hd) ∧ w'.cell? ⟨w.heap.size, 1, none⟩ = some v) ∧ w'.cell? ⟨w.heap.size + 1, 0, none⟩ = some (.string u.nm) ∧ w'.cell? ⟨w.heap.size + 1, 1, none⟩ = some (.string u.old) ∧ w'.cell? ⟨w.heap.size + 1, 2, none⟩ = some (.string u.new) ∧ w'.cell? ⟨w.heap.size + 1, 3, none⟩ = some (.bool u.force)) := hideIt (fun w' hb' => ⟨by
    have := hb'.block w.heap.size (by omega)
    exact ⟨cellAt (by rw [this]; exact hg0) rfl, cellAt (by rw [this]; exact hg0) rfl⟩, UBox.cells (by
    have := hb'.block (w.heap.size + 1) (by omega)
    unfold UBox at hbx ⊢
    rw [this, hbx])⟩)
  have HA := hideIt (checkAsked_any va la u W (ha.below hb) hla)
  have HG : Hid (∀ w', Below W.heap.size W w' → Calls Try.prog 19 #[.agg #[.string hd, v], .string u.nm] w' fun e w2 => e = .returned (.string (getR l u.nm)) ∧ Below w'.heap.size w' w2) := hideIt (fun w' hb' => get_any hd v l u.nm w' (h.below (below_step hb (Nat.le_refl _) hb')) hl hs)
  have HH := hideIt (fun w => head_any u.nm w)
  have HM : Hid (∀ w', Below W.heap.size W w' → Calls Try.prog 45 #[.func (.func k) #[] lb, .string u.old, .string u.new] w' fun e w2 => e = .returned (.bool (f u.old u.new)) ∧ Below w'.heap.size w' w2) := hideIt (fun w' hb' => mayGo_any k lb f u.old u.new w' (hf.below (below_step hb (Nat.le_refl _) hb')))
  have HW := hideIt hW
  have HB2 : Hid (∀ w1, Below W.heap.size W w1 → Below w.heap.size w w1) := hideIt (fun w1 h => below_step hb (Nat.le_refl _) h)
  obtain ⟨p, hp⟩ : ∃ p, upd hd l la u f = p := ⟨_, rfl⟩
  have hpp : p = if ask la u = 0 then why2 hd l u f else ask la u := hp.symm
  rw [hp]
  obtain ⟨ar, cr, hvr⟩ : ∃ ar cr, v = .slice ar l.length cr := by
    obtain ⟨_, a, c, e, _⟩ := h
    exact ⟨_, _, e⟩
  obtain ⟨aa, ca, hva⟩ : ∃ aa ca, va = .slice aa la.length ca := by
    obtain ⟨_, a, c, e, _⟩ := ha
    exact ⟨_, _, e⟩
  subst hvr hva
  generalize la.length = na at *
  generalize l.length = nr at *
  clear hp hW hb hbx hg0 h ha hf hs hsz
  obtain ⟨q, hq⟩ : ∃ q, ask la u = q := ⟨_, rfl⟩
  rw [hq] at HA hpp
  unfold upA at HA ⊢
  by_cases q0 : q = 0
  · subst q0
    rw [if_pos rfl] at hpp
    obtain ⟨G, hG⟩ : ∃ G, getR l u.nm = G := ⟨_, rfl⟩
    have g1 := tl_eq (a := G) (b := u.old)
    have g2 := tl_eq (a := u.nm) (b := hd)
    have g3 := tl_eq (a := u.new) (b := u.old)
    have hww : why2 hd l u f = (if decide (G = u.old) = false then 130 else if emp u.new = true ∧ decide (u.nm = hd) = true then 132 else if emp u.new = true ∨ emp u.old = true ∨ decide (u.new = u.old) = true ∨ u.force = true then 0 else if headB u.nm = false then 133 else if f u.old u.new = false then 131 else 0) := by
      rw [why2, hG]
      simp only [decide_eq_false_iff_not, decide_eq_true_eq]
    rw [hww] at hpp
    rw [hG] at HG
    clear hG hww
    have e1 : (u.new.toList == []) = emp u.new := rfl
    have e2 := emp_is u.new
    have e3 : (u.old.toList == []) = emp u.old := rfl
    have e4 := emp_is u.old
    obtain ⟨a, o, c, fo⟩ := u
    generalize decide (G = o) = s1 at *
    generalize decide (a = hd) = s2 at *
    generalize decide (c = o) = s3 at *
    generalize emp c = C at *
    generalize emp o = O at *
    generalize headB a = H at *
    generalize f o c = m at *
    clear hq
    go_enter Try.func25, Try.ntmps25
    go_upto_region 4 with (first | (go_at_call 44; rw [HW.out]; refine HA.out.mono ?_; rintro e w1 ⟨rfl, hb1⟩; have B1 := hideIt hb1; have D1 : Hid (Below W.heap.size W w1.drew) := hideIt (below_step hb1 (Nat.le_refl _) ⟨rfl, rfl, rfl, Nat.le_refl _, fun _ _ => rfl⟩); obtain ⟨⟨q0, q1⟩, q2, q3, q4, q5⟩ := HF.out _ hb1; obtain ⟨⟨y0, y1⟩, y2, y3, y4, y5⟩ := HF.out _ D1.out; clear hb1))
    go_cut [22] from 16 to 62 (fun c wx => c = .bool (!s1) ∧ Below W.heap.size W wx)
    case first =>
      go_region_with (first | (go_at_call 19; refine (HG.out _ D1.out).mono ?_; rintro e w2 ⟨rfl, hb2⟩; have B2 := hideIt (below_step D1.out (Nat.le_refl _) hb2); obtain ⟨⟨r0, r1⟩, r2, r3, r4, r5⟩ := HF.out _ B2.out; clear hb2))
      all_goals go_wp2
      all_goals go_meet
      all_goals exact ⟨rfl, B2.out⟩
    case rest =>
    obtain ⟨rfl, hbx⟩ := hcut
    have B2 := hideIt hbx
    obtain ⟨⟨r0, r1⟩, r2, r3, r4, r5⟩ := HF.out _ hbx
    clear hbx q0 q1 q2 q3 q4 q5 y0 y1 y2 y3 y4 y5
    cases s1
    · have HZ : Hid (p = 130) := hideIt (by rw [hpp]; first | rfl | simp)
      clear hpp
      go_wp2
      go_ret
      exact ⟨by rw [HZ.out]; rfl, HB2.out _ B2.out⟩
    · cases C
      · cases O
        · cases s3
          · cases fo
            · cases H
              · have HZ : Hid (p = 133) := hideIt (by rw [hpp]; first | rfl | simp)
                clear hpp
                go_wp2_with (first | (go_at_call 34; refine (HH.out _).mono ?_; rintro e w3 ⟨rfl, hb3⟩; have B3 := hideIt (below_step B2.out (Nat.le_refl _) hb3); obtain ⟨⟨z0, z1⟩, z2, z3, z4, z5⟩ := HF.out _ B3.out; clear hb3))
                go_ret
                exact ⟨by rw [HZ.out]; rfl, HB2.out _ B3.out⟩
              · cases m
                · have HZ : Hid (p = 131) := hideIt (by rw [hpp]; first | rfl | simp)
                  clear hpp
                  go_wp2_with (first | (go_at_call 34; refine (HH.out _).mono ?_; rintro e w3 ⟨rfl, hb3⟩; have B3 := hideIt (below_step B2.out (Nat.le_refl _) hb3); obtain ⟨⟨z0, z1⟩, z2, z3, z4, z5⟩ := HF.out _ B3.out; clear hb3) | (go_at_call 45; refine (HM.out _ B3.out).mono ?_; rintro e w4 ⟨rfl, hb4⟩; have B4 := hideIt (below_step B3.out (Nat.le_refl _) hb4); clear hb4))
                  go_ret
                  exact ⟨by rw [HZ.out]; rfl, HB2.out _ B4.out⟩
                · have HZ : Hid (p = 0) := hideIt (by rw [hpp]; first | rfl | simp)
                  clear hpp
                  go_wp2_with (first | (go_at_call 34; refine (HH.out _).mono ?_; rintro e w3 ⟨rfl, hb3⟩; have B3 := hideIt (below_step B2.out (Nat.le_refl _) hb3); obtain ⟨⟨z0, z1⟩, z2, z3, z4, z5⟩ := HF.out _ B3.out; clear hb3) | (go_at_call 45; refine (HM.out _ B3.out).mono ?_; rintro e w4 ⟨rfl, hb4⟩; have B4 := hideIt (below_step B3.out (Nat.le_refl _) hb4); clear hb4))
                  go_ret
                  exact ⟨by rw [HZ.out]; rfl, HB2.out _ B4.out⟩
            · have HZ : Hid (p = 0) := hideIt (by rw [hpp]; first | rfl | simp)
              clear hpp
              go_wp2
              go_ret
              exact ⟨by rw [HZ.out]; rfl, HB2.out _ B2.out⟩
          · have HZ : Hid (p = 0) := hideIt (by rw [hpp]; first | rfl | simp)
            clear hpp
            go_wp2
            go_ret
            exact ⟨by rw [HZ.out]; rfl, HB2.out _ B2.out⟩
        · have HZ : Hid (p = 0) := hideIt (by rw [hpp]; first | rfl | simp)
          clear hpp
          go_wp2
          go_ret
          exact ⟨by rw [HZ.out]; rfl, HB2.out _ B2.out⟩
      · cases s2
        · have HZ : Hid (p = 0) := hideIt (by rw [hpp]; first | rfl | simp)
          clear hpp
          go_wp2
          go_ret
          exact ⟨by rw [HZ.out]; rfl, HB2.out _ B2.out⟩
        · have HZ : Hid (p = 132) := hideIt (by rw [hpp]; first | rfl | simp)
          clear hpp
          go_wp2
          go_ret
          exact ⟨by rw [HZ.out]; rfl, HB2.out _ B2.out⟩
  · rw [if_neg q0] at hpp
    subst hpp
    have q1 : ¬ (p : Int) = 0 := q0
    have q2 : (p != 0) = true := by simpa using q0
    go_enter Try.func25, Try.ntmps25
    go_wp2_with (first
      | (go_at_call 44; rw [HW.out]; refine HA.out.mono ?_; rintro e w1 ⟨rfl, hb1⟩))
    go_ret
    exact ⟨rfl, HB2.out _ hb1⟩
end Go.Proofs.Ytecdjejemohkgaa.Rf
