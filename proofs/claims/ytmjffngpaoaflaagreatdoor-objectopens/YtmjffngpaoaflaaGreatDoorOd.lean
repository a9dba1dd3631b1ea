/- Commits: plain readings; checked, walked. -/
import Derived.Test.YtmjffngpaoaflaaGreatDoorOc
namespace Go.Proofs.YtmjffngpaoaflaaGreatDoor
namespace Ob
open Go.RowKit Go.Shelf
/-- A commit: its tree, its parents (and the value that holds them), its author, its time, its text. -/
structure Cm where
  tr : ByteArray
  pv : Value
  ps : List ByteArray
  au : ByteArray
  tm : Nat
  tx : ByteArray
def cmV (c : Cm) : Value := .agg #[.string c.tr, c.pv, .string c.au, .int .u64 (c.tm : Int), .string c.tx]
abbrev cmO (c : Cm) (T : TypeId) : Obj := .cells #[.string c.tr, c.pv, .string c.au, .int .u64 (c.tm : Int), .string c.tx] T
def comOk (c : Cm) : Bool := idB c.tr && parB c.ps && autB c.au && textB c.tx
/-- Why a commit may not be. -/
def comE (c : Cm) : Int := if 4 < c.ps.length then 3 else if comOk c = true then 0 else 6
/-- A commit as it stands in memory. -/
structure CBox (w : World) (N : Nat) (T : TypeId) (c : Cm) : Prop where
  blk : w.heap[N]? = some (.cells #[.string c.tr, c.pv, .string c.au, .int .u64 (c.tm : Int), .string c.tx] T (0, 0))
theorem CBox.lt {w : World} {N : Nat} {T : TypeId} {c : Cm} (h : CBox w N T c) : N < w.heap.size := by
  rcases Nat.lt_or_ge N w.heap.size with h' | h'
  · exact h'
  · have := h.blk; simp [Array.getElem?_eq_none h'] at this
theorem CBox.c0 {w : World} {N : Nat} {T : TypeId} {c : Cm} (h : CBox w N T c) : w.cell? ⟨N, 0, none⟩ = some (.string c.tr) := cellAt h.blk rfl
theorem CBox.c1 {w : World} {N : Nat} {T : TypeId} {c : Cm} (h : CBox w N T c) : w.cell? ⟨N, 1, none⟩ = some c.pv := cellAt h.blk rfl
theorem CBox.c2 {w : World} {N : Nat} {T : TypeId} {c : Cm} (h : CBox w N T c) : w.cell? ⟨N, 2, none⟩ = some (.string c.au) := cellAt h.blk rfl
theorem CBox.c3 {w : World} {N : Nat} {T : TypeId} {c : Cm} (h : CBox w N T c) : w.cell? ⟨N, 3, none⟩ = some (.int .u64 (c.tm : Int)) := cellAt h.blk rfl
theorem CBox.c4 {w : World} {N : Nat} {T : TypeId} {c : Cm} (h : CBox w N T c) : w.cell? ⟨N, 4, none⟩ = some (.string c.tx) := cellAt h.blk rfl
theorem CBox.f0 {w : World} {N : Nat} {T : TypeId} {c : Cm} (h : CBox w N T c) : w.frozen? ⟨N, 0, none⟩ = false := Lib.frozen_of_heap h.blk 0
theorem CBox.f1 {w : World} {N : Nat} {T : TypeId} {c : Cm} (h : CBox w N T c) : w.frozen? ⟨N, 1, none⟩ = false := Lib.frozen_of_heap h.blk 1
theorem CBox.f2 {w : World} {N : Nat} {T : TypeId} {c : Cm} (h : CBox w N T c) : w.frozen? ⟨N, 2, none⟩ = false := Lib.frozen_of_heap h.blk 2
theorem CBox.f3 {w : World} {N : Nat} {T : TypeId} {c : Cm} (h : CBox w N T c) : w.frozen? ⟨N, 3, none⟩ = false := Lib.frozen_of_heap h.blk 3
theorem CBox.f4 {w : World} {N : Nat} {T : TypeId} {c : Cm} (h : CBox w N T c) : w.frozen? ⟨N, 4, none⟩ = false := Lib.frozen_of_heap h.blk 4
theorem CBox.below {w w' : World} {N : Nat} {T : TypeId} {c : Cm} (h : CBox w N T c) (hb : Below w.heap.size w w') : CBox w' N T c := ⟨(hb.block N h.lt).trans h.blk⟩
theorem CBox.grown {w w' : World} {N M : Nat} {T : TypeId} {c : Cm} (h : CBox w N T c) (hg : w.grownBy w' (some M)) (hne : N ≠ M) : CBox w' N T c := ⟨(hg.block N h.lt (by simpa using hne)).trans h.blk⟩
theorem CBox.new (w : World) (T : TypeId) (c : Cm) : CBox (w.alloc (cmO c T)) w.heap.size T c := ⟨Cb.alloc_at rfl⟩
set_option maxHeartbeats 1600000 in
set_option maxRecDepth 100000 in
theorem checkCommit_any (c : Cm) (w : World) (hrow : SRow w c.pv c.ps) (h2 : c.au.size ≤ 1000000) (h3 : c.tx.size ≤ 1000000) (hm : MaxAt w) :
    Calls Tryz.prog 16 #[cmV c] w fun e w' => e = .returned (.int .i64 (comE c)) ∧ Below w.heap.size w w' := by
  have HNB := hideIt (CBox.new w 42 c)
  have HAB := hideIt (new_below w (cmO c 42))
  have HM1 := hideIt (hm.below HAB.out)
  have HRW := hideIt (hrow.below HAB.out)
  have HE : Hid (comE c = if 4 < c.ps.length then 3 else if (idB c.tr && parB c.ps && autB c.au && textB c.tx) = true then 0 else 6) := rfl
  obtain ⟨tr, pv, ps, au, tm, tx⟩ := c
  simp only at hrow h2 h3 HE HRW
  unfold cmV
  obtain ⟨a, cc, rfl, hlc, hcm, -⟩ := hrow
  obtain ⟨n, hn⟩ : ∃ n, ps.length = n := ⟨_, rfl⟩
  have HI : Hid (∀ w, Calls Tryz.prog 40 #[.string tr] w fun e w' => e = .returned (.bool (idB tr)) ∧ w = w') := hideIt (fun w => (mayBeID_any tr w).mono fun _ _ h => ⟨h.1, h.2.symm⟩)
  have HP := hideIt (fun w h => mayBeParents_any (.slice a ps.length cc) ps w h)
  have HA := hideIt (fun w h => mayBeAuthor_any au w h2 h)
  have HT := hideIt (fun w => mayBeText_any tx w (by unfold maxLen; omega))
  obtain ⟨i, hi⟩ : ∃ i, idB tr = i := ⟨_, rfl⟩
  obtain ⟨r, hr⟩ : ∃ r, parB ps = r := ⟨_, rfl⟩
  obtain ⟨u, hu⟩ : ∃ u, autB au = u := ⟨_, rfl⟩
  obtain ⟨x, hx⟩ : ∃ x, textB tx = x := ⟨_, rfl⟩
  rw [hi] at HI HE
  rw [hr] at HP HE
  rw [hu] at HA HE
  rw [hx] at HT HE
  rw [hn] at HP HE HRW HNB HAB HM1 ⊢
  simp only at HNB HAB ⊢
  unfold cmO at HNB HAB HRW HM1
  simp only at HNB HAB HRW HM1
  clear hi hr hu hx h2 h3 hm hn hlc hcm
  by_cases hk : 4 < n
  · rw [if_pos hk] at HE
    have k1 : (4 : Int) < (n : Int) := by omega
    go_enter Tryz.func16, Tryz.ntmps16
    go_wp2_with fail
    go_ret
    exact ⟨by rw [HE.out] <;> rfl, HAB.out⟩
  · rw [if_neg hk] at HE
    have k1 : ¬ (4 : Int) < (n : Int) := by omega
    cases i with
    | false =>
      simp only [Bool.false_and] at HE
      go_enter Tryz.func16, Tryz.ntmps16
      go_wp2_with (first | (go_at_call 40; refine (HI.out _).mono ?_; rintro e w1 ⟨rfl, rfl⟩))
      go_ret
      exact ⟨by rw [HE.out] <;> rfl, HAB.out⟩
    | true =>
      cases r with
      | false =>
        simp only [Bool.and_false, Bool.false_and] at HE
        go_enter Tryz.func16, Tryz.ntmps16
        go_wp2_with (first | (go_at_call 40; refine (HI.out _).mono ?_; rintro e w1 ⟨rfl, rfl⟩) | (go_at_call 41; refine (HP.out _ HRW.out).mono ?_; rintro e w1 ⟨rfl, rfl⟩))
        go_ret
        exact ⟨by rw [HE.out] <;> rfl, HAB.out⟩
      | true =>
        simp only [Bool.true_and] at HE
        cases u with
        | false =>
          rw [if_neg (by simp)] at HE
          go_enter Tryz.func16, Tryz.ntmps16
          go_wp2_with (first | (go_at_call 40; refine (HI.out _).mono ?_; rintro e w1 ⟨rfl, rfl⟩) | (go_at_call 41; refine (HP.out _ HRW.out).mono ?_; rintro e w1 ⟨rfl, rfl⟩) | (go_at_call 42; refine (HA.out _ HM1.out).mono ?_; rintro e w3 ⟨rfl, hb3⟩))
          go_ret
          exact ⟨by rw [HE.out] <;> rfl, below2 HAB.out hb3⟩
        | true =>
          cases x with
          | false =>
            rw [if_neg (by simp)] at HE
            go_enter Tryz.func16, Tryz.ntmps16
            go_wp2_with (first | (go_at_call 40; refine (HI.out _).mono ?_; rintro e w1 ⟨rfl, rfl⟩) | (go_at_call 41; refine (HP.out _ HRW.out).mono ?_; rintro e w1 ⟨rfl, rfl⟩) | (go_at_call 42; refine (HA.out _ HM1.out).mono ?_; rintro e w3 ⟨rfl, hb3⟩; have c4 := (HNB.out.below hb3).c4) | (go_at_call 43; refine (HT.out _).mono ?_; rintro e w4 ⟨rfl, hb4⟩))
            go_ret
            exact ⟨by rw [HE.out] <;> rfl, below2 (below2 HAB.out hb3) hb4⟩
          | true =>
            rw [if_pos (by simp)] at HE
            go_enter Tryz.func16, Tryz.ntmps16
            go_wp2_with (first | (go_at_call 40; refine (HI.out _).mono ?_; rintro e w1 ⟨rfl, rfl⟩) | (go_at_call 41; refine (HP.out _ HRW.out).mono ?_; rintro e w1 ⟨rfl, rfl⟩) | (go_at_call 42; refine (HA.out _ HM1.out).mono ?_; rintro e w3 ⟨rfl, hb3⟩; have c4 := (HNB.out.below hb3).c4) | (go_at_call 43; refine (HT.out _).mono ?_; rintro e w4 ⟨rfl, hb4⟩))
            go_ret
            exact ⟨by rw [HE.out] <;> rfl, below2 (below2 HAB.out hb3) hb4⟩
end Ob
end Go.Proofs.YtmjffngpaoaflaaGreatDoor
