/- Trees: the word of a mode, the mode of a word, an entry that may be, and entries in memory. -/
import Derived.Test.YtmjffngpaoaflaaGreatDoorTp
import Derived.Test.YtmjffngpaoaflaaGreatDoorLbAll
namespace Go.Proofs.YtmjffngpaoaflaaGreatDoor
open Go.RowKit
theorem cellAt {w : World} {g i : Nat} {cs : Array Value} {t : TypeId} {fr : Nat × Nat} {v : Value} (h : w.heap[g]? = some (.cells cs t fr)) (hv : cs[i]? = some v) : w.cell? ⟨g, i, none⟩ = some v := by
  rw [cell_of_row _ _ i _ _ _ h, hv]
def enV (x : En) : List Value := [.string x.nm, .int .i64 x.md, .string x.ids]
def enA (x : En) : Value := .agg #[.string x.nm, .int .i64 x.md, .string x.ids]
def esV (l : List En) : List Value := l.flatMap enV
set_option maxHeartbeats 800000 in
set_option maxRecDepth 100000 in
theorem wordOf_any (m : Int) (w : World) : Calls Tryz.prog 129 #[.int .i64 m] w fun e w' => e = .returned (.string (bs (word m))) ∧ w' = w := by
  by_cases h1 : m = 1
  · subst h1
    go_enter Tryz.func129, Tryz.ntmps129
    go_wp2
    go_ret
    exact ⟨rfl, rfl⟩
  · by_cases h2 : m = 2
    · subst h2
      go_enter Tryz.func129, Tryz.ntmps129
      go_wp2
      go_ret
      exact ⟨rfl, rfl⟩
    · by_cases h3 : m = 3
      · subst h3
        go_enter Tryz.func129, Tryz.ntmps129
        go_wp2
        go_ret
        exact ⟨rfl, rfl⟩
      · have q1 : (m == 1) = false := by simpa using h1
        have q2 : (m == 2) = false := by simpa using h2
        have q3 : (m == 3) = false := by simpa using h3
        have e : bs (word m) = ⟨#[]⟩ := by unfold word; rw [if_neg h1, if_neg h2, if_neg h3]; rfl
        rw [e]
        go_enter Tryz.func129, Tryz.ntmps129
        go_wp2
        go_ret
        exact ⟨rfl, rfl⟩
set_option maxHeartbeats 800000 in
set_option maxRecDepth 100000 in
theorem modeOf_any (s : ByteArray) (w : World) : Calls Tryz.prog 102 #[.string s] w fun e w' => e = .returned (.int .i64 (modeL s.data.toList)) ∧ w' = w := by
  have HM : Hid (modeL s.data.toList = if s.data.toList = [102, 105, 108, 101] then 1 else if s.data.toList = [114, 117, 110] then 2 else if s.data.toList = [116, 114, 101, 101] then 3 else 0) := rfl
  obtain ⟨a, ha⟩ : ∃ a, (s.toList == [102, 105, 108, 101]) = a := ⟨_, rfl⟩
  obtain ⟨b, hb⟩ : ∃ b, (s.toList == [114, 117, 110]) = b := ⟨_, rfl⟩
  obtain ⟨c, hc⟩ : ∃ c, (s.toList == [116, 114, 101, 101]) = c := ⟨_, rfl⟩
  have HA := hideIt ha
  have HB := hideIt hb
  have HC := hideIt hc
  rw [ByteArray.toList_eq] at HA HB HC
  cases a <;> cases b <;> cases c
  all_goals go_enter Tryz.func102, Tryz.ntmps102
  all_goals go_wp2
  all_goals go_ret
  all_goals refine ⟨?_, rfl⟩
  all_goals rw [HM.out]
  all_goals (have h1 := HA.out; have h2 := HB.out; have h3 := HC.out; simp only [beq_iff_eq, beq_eq_false_iff_ne, ne_eq] at h1 h2 h3; simp [h1, h2, h3])
set_option maxHeartbeats 1600000 in
set_option maxRecDepth 100000 in
theorem checkEntry_any (x : En) (w : World) : Calls Tryz.prog 103 #[enA x] w fun e w' => e = .returned (.int .i64 (chk1 x)) ∧ Below w.heap.size w w' := by
  obtain ⟨nm, md, ids⟩ := x
  obtain ⟨W, hW⟩ : ∃ W, w.alloc (.cells #[.string nm, .int .i64 md, .string ids] 95) = W := ⟨_, rfl⟩
  have hbW : Below w.heap.size w W := by rw [← hW]; exact (Below.refl _ _).alloc (Nat.le_refl _) _
  have hbox : W.heap[w.heap.size]? = some (.cells #[.string nm, .int .i64 md, .string ids] 95 (0, 0)) := by rw [← hW]; exact alloc_at rfl
  have hlt : w.heap.size < W.heap.size := by rw [← hW]; simp
  have c0 : W.cell? ⟨w.heap.size, 0, none⟩ = some (.string nm) := cellAt hbox rfl
  have c1 : W.cell? ⟨w.heap.size, 1, none⟩ = some (.int .i64 md) := cellAt hbox rfl
  have c2 : W.cell? ⟨w.heap.size, 2, none⟩ = some (.string ids) := cellAt hbox rfl
  have HK := hideIt (name_any nm W)
  have HM := hideIt (wordOf_any md)
  have HBW := hideIt hbW
  have HC : Hid (chk1 ⟨nm, md, ids⟩ = if Lb.nameB nm = false then 50 else if ¬ (1 ≤ md ∧ md ≤ 3) then 60 else if ids.size ≠ 32 then 6 else 0) := rfl
  have HC1 := hideIt c1
  have HC2 := hideIt c2
  have HW := hideIt (word_mode md)
  obtain ⟨nb, hnb⟩ : ∃ nb, Lb.nameB nm = nb := ⟨_, rfl⟩
  obtain ⟨wd, hwd⟩ : ∃ wd, word md = wd := ⟨_, rfl⟩
  have q1 : ((bs wd).toList == []) = decide (wd = []) := by rw [ByteArray.toList_eq, bs_list]; cases wd <;> rfl
  have q2 : (bs wd).toList.isEmpty = decide (wd = []) := by rw [ByteArray.toList_eq, bs_list]; cases wd <;> rfl
  rw [hnb] at HC HK
  rw [hwd] at HM HW
  obtain ⟨we, hwe⟩ : ∃ we, decide (wd = []) = we := ⟨_, rfl⟩
  rw [hwe] at q1 q2
  have HWE := hideIt hwe
  obtain ⟨k, hk⟩ : ∃ k : Int, (ids.size : Int) = k := ⟨_, rfl⟩
  obtain ⟨ke, hke⟩ : ∃ ke, (k == 32) = ke := ⟨_, rfl⟩
  have HKK := hideIt hk
  have HKE := hideIt hke
  clear hwe hnb hwd c1 c2 hbW hbox
  show Calls Tryz.prog 103 #[.agg #[.string nm, .int .i64 md, .string ids]] w fun e w' => e = .returned (.int .i64 (chk1 ⟨nm, md, ids⟩)) ∧ Below w.heap.size w w'
  cases nb <;> cases we <;> cases ke
  all_goals go_enter Tryz.func103, Tryz.ntmps103
  all_goals go_wp2_with (first | (go_at_call 71; refine HK.out.mono ?_; rintro e w1 ⟨rfl, hb1⟩; have d1 : w1.cell? ⟨w.heap.size, 1, none⟩ = some (.int .i64 md) := by rw [hb1.cell (p := ⟨w.heap.size, 1, none⟩) hlt]; exact HC1.out
                                  have d2 : w1.cell? ⟨w.heap.size, 2, none⟩ = some (.string ids) := by rw [hb1.cell (p := ⟨w.heap.size, 2, none⟩) hlt]; exact HC2.out) | (go_at_call 129; refine (HM.out _).mono ?_; rintro e w2 ⟨rfl, hw2⟩; obtain rfl := hw2.symm))
  all_goals go_ret
  all_goals refine ⟨?_, below2 HBW.out (by assumption)⟩
  all_goals rw [HC.out]
  all_goals (have h1 := HWE.out; have h2 := HKE.out; have h3 := HW.out; have h4 := HKK.out; simp only [decide_eq_true_eq, decide_eq_false_iff_not, beq_iff_eq, beq_eq_false_iff_ne, ne_eq] at h1 h2; simp only [h1, true_iff, false_iff] at h3)
  all_goals simp
  all_goals (try omega)
end Go.Proofs.YtmjffngpaoaflaaGreatDoor
