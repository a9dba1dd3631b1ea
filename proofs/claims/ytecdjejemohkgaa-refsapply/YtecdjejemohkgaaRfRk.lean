/- Refs: what may be asked for: walked. -/
import Derived.Test.YtecdjejemohkgaaRfRj
namespace Go.Proofs.Ytecdjejemohkgaa.Rf
open Cb Go.RowKit
def emp (s : ByteArray) : Bool := s.toList == []
theorem emp_is (s : ByteArray) : s.toList.isEmpty = emp s := by
  unfold emp
  cases s.toList <;> rfl
/-- Why an update may not be asked for. -/
def ask (l : List Up) (u : Up) : Int := if hasN u.nm l = true then 1 else if okN u.nm = false then 50 else if (emp u.new = false ∧ decide (u.new.size = 32) = false) ∨ (emp u.new = true ∧ emp u.old = true) then 1 else 0
/-- What is known of an update that lies at a block's beginning. -/
def UBox (w : World) (g : Nat) (u : Up) : Prop := w.heap[g]? = some (.cells #[.string u.nm, .string u.old, .string u.new, .bool u.force] 34)
theorem UBox.cells {w : World} {g : Nat} {u : Up} (h : UBox w g u) : w.cell? ⟨g, 0, none⟩ = some (.string u.nm) ∧ w.cell? ⟨g, 1, none⟩ = some (.string u.old) ∧ w.cell? ⟨g, 2, none⟩ = some (.string u.new) ∧ w.cell? ⟨g, 3, none⟩ = some (.bool u.force) :=
  ⟨cellAt h rfl, cellAt h rfl, cellAt h rfl, cellAt h rfl⟩
set_option maxHeartbeats 3200000 in
set_option maxRecDepth 100000 in
theorem checkAsked_any (v : Value) (l : List Up) (u : Up) (w : World) (h : URow w v l) (hl : l.length ≤ 100000) :
    Calls Try.prog 44 #[v, upA u] w fun e w' => e = .returned (.int .i64 (ask l u)) ∧ Below w.heap.size w w' := by
  obtain ⟨W, hW⟩ : ∃ W, w.alloc (.cells #[.string u.nm, .string u.old, .string u.new, .bool u.force] 34) = W := ⟨_, rfl⟩
  have hb : Below w.heap.size w W := by rw [← hW]; exact (Below.refl _ w).alloc (Nat.le_refl _) _
  have hbx : UBox W w.heap.size u := by rw [← hW]; exact alloc_at rfl
  have HF : Hid (∀ w', Below W.heap.size W w' → w'.cell? ⟨w.heap.size, 0, none⟩ = some (.string u.nm) ∧ w'.cell? ⟨w.heap.size, 1, none⟩ = some (.string u.old) ∧ w'.cell? ⟨w.heap.size, 2, none⟩ = some (.string u.new) ∧ w'.cell? ⟨w.heap.size, 3, none⟩ = some (.bool u.force)) := hideIt (fun w' hb' => UBox.cells (by
    have := hb'.block w.heap.size (block_lt hbx)
    unfold UBox at hbx ⊢
    rw [this, hbx]))
  have HC := hideIt (containsU_any v l u.nm w.heap.size W (h.below hb) hl (block_lt hbx) (hbx.cells).1)
  have HR := hideIt (fun w => ref_any u.nm w)
  have HM := hideIt (fun w => mayBeID_any u.new w)
  have HB := hideIt hb
  have HW := hideIt hW
  obtain ⟨p, hp⟩ : ∃ p, ask l u = p := ⟨_, rfl⟩
  have HP : Hid (p = if hasN u.nm l = true then 1 else if okN u.nm = false then 50 else if (emp u.new = false ∧ decide (u.new.size = 32) = false) ∨ (emp u.new = true ∧ emp u.old = true) then 1 else 0) := hideIt hp.symm
  rw [hp]
  have hok : (headB u.nm || tagB u.nm) = okN u.nm := rfl
  rw [hok] at HR
  have e1 : (u.new.toList == []) = emp u.new := rfl
  have e2 := emp_is u.new
  have e3 : (u.old.toList == []) = emp u.old := rfl
  have e4 := emp_is u.old
  obtain ⟨a, o, c, f⟩ := u
  obtain ⟨va, vn, vc, rfl⟩ : ∃ va vn vc, v = .slice va vn vc := by
    obtain ⟨_, a, c, e, _⟩ := h
    exact ⟨_, _, _, e⟩
  have HB2 : Hid (∀ w1, Below W.heap.size W w1 → Below w.heap.size w w1) := hideIt (fun w1 h => below_step hb (Nat.le_refl _) h)
  generalize hasN a l = A at HC HP
  generalize okN a = B at HR HP
  generalize emp c = C at e1 e2 HP
  generalize emp o = O at e3 e4 HP
  generalize decide (ByteArray.size c = 32) = D at HM HP
  clear hok hp hW hbx hb h hl
  have hpp := HP.out
  clear HP
  unfold upA
  cases A
  · cases B
    · have HZ : Hid (p = 50) := hideIt (by rw [hpp]; rfl)
      clear hpp e1 e2 e3 e4
      go_enter Try.func44, Try.ntmps44
      go_wp2_with (first
        | (go_at_call 56; rw [HW.out]; refine HC.out.mono ?_; rintro e w1 ⟨rfl, hb1⟩; obtain ⟨q0, q1, q2, q3⟩ := HF.out _ hb1)
        | (go_at_call 35; refine (HR.out _).mono ?_; rintro e w2 ⟨rfl, hb2⟩))
      go_ret
      exact ⟨by rw [HZ.out]; rfl, HB2.out _ (below_step hb1 (Nat.le_refl _) hb2)⟩
    · cases C
      · cases D
        · have HZ : Hid (p = 1) := hideIt (by rw [hpp]; rfl)
          clear hpp e3 e4
          go_enter Try.func44, Try.ntmps44
          go_wp2_with (first
            | (go_at_call 56; rw [HW.out]; refine HC.out.mono ?_; rintro e w1 ⟨rfl, hb1⟩; obtain ⟨q0, q1, q2, q3⟩ := HF.out _ hb1)
            | (go_at_call 35; refine (HR.out _).mono ?_; rintro e w2 ⟨rfl, hb2⟩; have B2 := hideIt (below_step hb1 (Nat.le_refl _) hb2); obtain ⟨r0, r1, r2, r3⟩ := HF.out _ B2.out; clear hb1 hb2)
            | (go_at_call 36; refine (HM.out _).mono ?_; rintro e w3 ⟨rfl, hb3⟩; have B3 := hideIt (below_step B2.out (Nat.le_refl _) hb3); obtain ⟨s0, s1, s2, s3⟩ := HF.out _ B3.out; clear hb3))
          go_ret
          exact ⟨by rw [HZ.out]; rfl, HB2.out _ B3.out⟩
        · have HZ : Hid (p = 0) := hideIt (by rw [hpp]; cases O <;> rfl)
          clear hpp
          go_enter Try.func44, Try.ntmps44
          go_wp2_with (first
            | (go_at_call 56; rw [HW.out]; refine HC.out.mono ?_; rintro e w1 ⟨rfl, hb1⟩; obtain ⟨q0, q1, q2, q3⟩ := HF.out _ hb1)
            | (go_at_call 35; refine (HR.out _).mono ?_; rintro e w2 ⟨rfl, hb2⟩; have B2 := hideIt (below_step hb1 (Nat.le_refl _) hb2); obtain ⟨r0, r1, r2, r3⟩ := HF.out _ B2.out; clear hb1 hb2)
            | (go_at_call 36; refine (HM.out _).mono ?_; rintro e w3 ⟨rfl, hb3⟩; have B3 := hideIt (below_step B2.out (Nat.le_refl _) hb3); obtain ⟨s0, s1, s2, s3⟩ := HF.out _ B3.out; clear hb3))
          go_ret
          exact ⟨by rw [HZ.out]; rfl, HB2.out _ B3.out⟩
      · cases O
        · have HZ : Hid (p = 0) := hideIt (by rw [hpp]; cases D <;> rfl)
          clear hpp
          go_enter Try.func44, Try.ntmps44
          go_wp2_with (first
            | (go_at_call 56; rw [HW.out]; refine HC.out.mono ?_; rintro e w1 ⟨rfl, hb1⟩; obtain ⟨q0, q1, q2, q3⟩ := HF.out _ hb1)
            | (go_at_call 35; refine (HR.out _).mono ?_; rintro e w2 ⟨rfl, hb2⟩; have B2 := hideIt (below_step hb1 (Nat.le_refl _) hb2); obtain ⟨r0, r1, r2, r3⟩ := HF.out _ B2.out; clear hb1 hb2))
          go_ret
          exact ⟨by rw [HZ.out]; rfl, HB2.out _ B2.out⟩
        · have HZ : Hid (p = 1) := hideIt (by rw [hpp]; cases D <;> rfl)
          clear hpp
          go_enter Try.func44, Try.ntmps44
          go_wp2_with (first
            | (go_at_call 56; rw [HW.out]; refine HC.out.mono ?_; rintro e w1 ⟨rfl, hb1⟩; obtain ⟨q0, q1, q2, q3⟩ := HF.out _ hb1)
            | (go_at_call 35; refine (HR.out _).mono ?_; rintro e w2 ⟨rfl, hb2⟩; have B2 := hideIt (below_step hb1 (Nat.le_refl _) hb2); obtain ⟨r0, r1, r2, r3⟩ := HF.out _ B2.out; clear hb1 hb2))
          go_ret
          exact ⟨by rw [HZ.out]; rfl, HB2.out _ B2.out⟩
  · have HZ : Hid (p = 1) := hideIt (by rw [hpp]; rfl)
    clear hpp e1 e2 e3 e4
    go_enter Try.func44, Try.ntmps44
    go_wp2_with (first
      | (go_at_call 56; rw [HW.out]; refine HC.out.mono ?_; rintro e w1 ⟨rfl, hb1⟩; obtain ⟨q0, q1, q2, q3⟩ := HF.out _ hb1))
    go_ret
    exact ⟨by rw [HZ.out]; rfl, HB2.out _ hb1⟩
end Go.Proofs.Ytecdjejemohkgaa.Rf
