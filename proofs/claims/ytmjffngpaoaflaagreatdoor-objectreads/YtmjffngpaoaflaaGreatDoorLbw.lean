/- Which texts may be names, as the program says it, walked. -/
import Derived.Test.YtmjffngpaoaflaaGreatDoorLbk
namespace Go.Proofs.YtmjffngpaoaflaaGreatDoor
open Go.RowKit
set_option maxHeartbeats 800000 in
theorem barred_any (x : Nat) (w : World) : Calls Tryz.prog 91 #[.int .i32 (x : Int)] w fun e w' => e = .returned (.bool (Lb.bar x)) ∧ w' = w := by
  rw [← barI_nat]
  rcases bar_cases (x : Int) with H | H | H | H | H | H
  all_goals (have HB := hideIt (barI_of H); obtain ⟨q1, q2, q3, q4, q5⟩ := H)
  all_goals go_enter Tryz.func91, Tryz.ntmps91
  all_goals go_wp2
  all_goals go_ret
  all_goals exact ⟨by rw [HB.out]; rfl, rfl⟩
theorem all_step {s : ByteArray} {f pos : Nat} {p : Nat × Nat → Bool} {b : Bool} (h : pos < s.size) (hb : s.size ≤ pos + f) (e : (Lb.runesF s f pos).all p = b) : ∃ g, s.size ≤ pos + (Utf8.decode s pos).2 + g ∧ (p (Utf8.decode s pos) && (Lb.runesF s g (pos + (Utf8.decode s pos).2)).all p) = b := by
  cases f with
  | zero => omega
  | succ f =>
    have := Lb.width_pos s pos h
    refine ⟨f, by omega, ?_⟩
    rw [← e, Lb.runes_step s f pos h, List.all_cons]
set_option maxHeartbeats 1600000 in
set_option maxRecDepth 100000 in
theorem name_any (s : ByteArray) (w : World) :
    Calls Tryz.prog 71 #[.string s] w fun e w' => e = .returned (.bool (Lb.nameB s)) ∧ Below w.heap.size w w' := by
  obtain ⟨e1, e2, e3, e4⟩ := seg_cmp s
  have HN := hideIt (noName_of s rfl rfl rfl rfl)
  have HD : Hid (Lb.nameB s = (!Lb.noName s.data.toList && (Lb.runes s).all (fun d => !Lb.bar d.1))) := rfl
  rw [HN.out] at HD
  clear HN
  obtain ⟨m, hm⟩ : ∃ m : Int, (s.size : Int) = m := ⟨_, rfl⟩
  rw [hm] at HD
  generalize hx1 : (s.data.toList == []) = x1 at *
  generalize hx2 : (s.data.toList == [46]) = x2 at *
  generalize hx3 : (s.data.toList == [46, 46]) = x3 at *
  generalize hx4 : decide ((64 : Int) < m) = x4 at *
  clear hx1 hx2 hx3
  cases x1 <;> cases x4 <;> cases x2 <;> cases x3
  case false.false.false.false =>
    have HD' : Hid (Lb.nameB s = (Lb.runes s).all (fun d => !Lb.bar d.1)) := hideIt (by rw [HD.out]; simp)
    clear HD
    go_enter Tryz.func71, Tryz.ntmps71
    go_wp2
    go_loopw [4] (fun _ wr => ∃ pos f : Nat, wr = w.iter s pos ∧ s.size ≤ pos + f ∧ (Lb.runesF s f pos).all (fun d => !Lb.bar d.1) = Lb.nameB s) (fun _ wr => s.size - wr.iterPos w.heap.size)
    case atStart => exact ⟨0, s.size, rfl, by omega, by rw [HD'.out]; rfl⟩
    case round =>
      obtain ⟨pos, f, rfl, hf, hr⟩ := hrel
      by_cases hp : pos < s.size
      · obtain ⟨g, hg, he⟩ := all_step hp hf hr
        have hw := Lb.width_pos s pos hp
        have hnx : ∀ ty, (Instr.next (.pointer (some ⟨w.heap.size, 0, none⟩)) true ty).run Tryz.prog (w.iter s pos) = _ := fun ty => run_next_any w s pos ty hp
        obtain ⟨d, hd⟩ : ∃ d, Utf8.decode s pos = d := ⟨_, rfl⟩
        rw [hd] at hg he hw
        simp only [hd] at hnx
        obtain ⟨x, k⟩ := d
        simp only at hg he hw hnx
        have HB := hideIt (barred_any x)
        have HE := hideIt he
        clear hd he hr hf
        generalize Lb.bar x = b at *
        cases b
        · go_wp2_with (first | (go_at_call 91; refine (HB.out _).mono ?_; rintro e wx ⟨rfl, hwx⟩; obtain rfl := hwx.symm))
          go_roundw
          case rel => exact ⟨pos + k, g, rfl, hg, by simpa using HE.out⟩
          case measure => simp; omega
        · go_wp2_with (first | (go_at_call 91; refine (HB.out _).mono ?_; rintro e wx ⟨rfl, hwx⟩; obtain rfl := hwx.symm))
          go_ret
          exact ⟨by rw [← HE.out]; rfl, below_iter _ _ _⟩
      · have hnx : ∀ ty, (Instr.next (.pointer (some ⟨w.heap.size, 0, none⟩)) true ty).run Tryz.prog (w.iter s pos) = _ := fun ty => run_next_end w s pos ty hp
        have HE := hideIt hr
        clear hr
        go_wp2
        go_ret
        exact ⟨by rw [← HE.out, Lb.runes_end s f pos hp]; rfl, below_iter _ _ _⟩
  all_goals
    have HD' : Hid (Lb.nameB s = false) := hideIt (by rw [HD.out]; simp)
    clear HD
    go_enter Tryz.func71, Tryz.ntmps71
    go_wp2
    go_ret
    exact ⟨by rw [HD'.out]; try rfl, Below.refl _ _⟩
end Go.Proofs.YtmjffngpaoaflaaGreatDoor
