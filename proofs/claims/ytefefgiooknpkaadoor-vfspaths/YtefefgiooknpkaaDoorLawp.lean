/- Which texts may be paths: the statement's own text, walked. -/
import Derived.Test.YtefefgiooknpkaaDoorAwk
namespace Go.Proofs.YtefefgiooknpkaaDoor
open Go.RowKit Go.Shelf Go.Maps
section
variable {w : World} {fb : Nat} {nv sv done uv : Value} {came used room steps : Int}
set_option maxHeartbeats 800000 in
set_option maxRecDepth 100000 in
theorem write_bad (h : FsAt w fb nv sv done uv came used room steps false) (hm : MaxAt w) (p s : ByteArray) (hp : p.size ≤ 140737488355328) (hpath : pathL p.data.toList = false) :
    Calls Tryd.prog 5 #[ptr fb, .string p, .string s] w fun e w' => e = .returned (.int .i64 30) ∧ Kept [] w w' := by
  obtain ⟨W, hW⟩ : ∃ W, w.alloc (.cells #[.string p] 9) = W := ⟨_, rfl⟩
  have hkW : Kept [] w W := by rw [← hW]; exact Kept.alloc _ _
  have hrow : W.heap[w.heap.size]? = some (.cells #[.string p] 9 (0, 0)) := by rw [← hW]; exact alloc_at rfl
  have HH := hideIt (hindered_one (hkW.fs h (by simp)) (hkW.max hm (by simp)) p hp w.heap.size 9 hrow)
  have he : errPath p = 30 := by rw [errPath, hpath]; rfl
  rw [he] at HH
  have HK := hideIt hkW
  unfold ptr
  clear h hm hpath hkW hrow he
  go_enter Tryd.func5, Tryd.ntmps5
  go_wp2_with (first | (go_at_call 9; refine HH.out.mono ?_; rintro e w1 ⟨rfl, hb1⟩))
  go_ret
  exact ⟨rfl, (HK.out.trans (Kept.of_below hb1)).sub (by simp)⟩
set_option maxHeartbeats 800000 in
set_option maxRecDepth 100000 in
theorem write_gone (h : FsAt w fb (.map none) sv done uv came used room steps false) (hm : MaxAt w) (p s : ByteArray) (hp : p.size ≤ 140737488355328) (hpath : pathL p.data.toList = true) (hd : (dirOf p).data.toList ≠ []) (hds : (dirOf p).size ≤ 140737488355328) :
    Calls Tryd.prog 5 #[ptr fb, .string p, .string s] w fun e w' => e = .returned (.int .i64 2) ∧ Kept [] w w' := by
  obtain ⟨W, hW⟩ : ∃ W, w.alloc (.cells #[.string p] 9) = W := ⟨_, rfl⟩
  have hkW : Kept [] w W := by rw [← hW]; exact Kept.alloc _ _
  have hrow : W.heap[w.heap.size]? = some (.cells #[.string p] 9 (0, 0)) := by rw [← hW]; exact alloc_at rfl
  have hf := hkW.fs h (by simp)
  have HH := hideIt (hindered_one hf (hkW.max hm (by simp)) p hp w.heap.size 9 hrow)
  have he : errPath p = 0 := by rw [errPath, if_pos hpath]
  rw [he] at HH
  have HF : Hid (∀ X, Below W.heap.size W X → Kept [] w X ∧ X.cell? ⟨fb, 0, none⟩ = some (.map none)) := hideIt (fun X hX => ⟨(hkW.trans (Kept.of_below hX)).sub (by simp), fs0 ((Kept.of_below hX).fs hf (by simp))⟩)
  have HD := hideIt (fun X => folderOf_any p X hp)
  have HG := hideIt (fun X => folder_none (w := X) (dirOf p) hds hd)
  unfold ptr
  generalize dirOf p = q at *
  clear h hm hpath hkW hrow he hf hd
  go_enter Tryd.func5, Tryd.ntmps5
  go_wp2_with (first | (go_at_call 9; refine HH.out.mono ?_; rintro e w1 ⟨rfl, hb1⟩))
  obtain ⟨hk1, d0⟩ := HF.out w1 hb1
  have HK1 := hideIt hk1
  clear hk1
  go_region_held3 (fun X => X.cell? ⟨fb, 0, none⟩ = some (.map none)) (first | exact d0 | assumption) (first | (go_at_call 11; refine (HD.out _).mono ?_; rintro e wx ⟨rfl, rfl⟩) | (go_at_call 10; refine (HG.out _).mono ?_; rintro e wx ⟨rfl, rfl⟩))
  go_wp2
  go_ret
  exact ⟨rfl, HK1.out.drew⟩
end
/-- What a Write tells of a path, where nothing was done yet. -/
theorem write_tells {w : World} {fb n0 : Nat} (h : FsAt w fb (.map none) (.map none) (.slice none 0 0) (.map none) 0 0 (10 : Nat) 0 false) (hm : MaxAt w) (hn : n0 ≤ fb) (p : ByteArray) (hp : p.size ≤ 140737488355328) :
    Calls Tryd.prog 5 #[ptr fb, .string p, .string ⟨#[]⟩] w fun e w' => ∃ n : Int, e = .returned (.int .i64 n) ∧ (n == 30) = !pathL p.data.toList ∧ Below n0 w w' := by
  have hf := block_lt h
  cases hpath : pathL p.data.toList with
  | false => exact (write_bad h hm p ⟨#[]⟩ hp hpath).mono fun e w' ⟨h1, h2⟩ => ⟨30, h1, rfl, h2.base n0 (by omega) (by simp)⟩
  | true =>
    have hp0 : p.data.toList ≠ [] := by
      intro e
      rw [e] at hpath
      exact absurd hpath (by decide)
    by_cases hd : dirOf p = ⟨#[]⟩
    · refine (write_fresh (B0 := n0) h hm (by omega) p ⟨#[]⟩ hp (by decide) hpath hp0 hd (by decide) (by decide)).mono ?_
      rintro e w' ⟨he, b1, b2, b3, done', xb, q1, q2, q3, q4, h1, h2, h3⟩
      exact ⟨0, he, rfl, h3.base n0 (by omega) (by simp; omega)⟩
    · have hd' : (dirOf p).data.toList ≠ [] := by
        intro e
        apply hd
        rw [← bs_data (dirOf p), e]
        rfl
      have hds : (dirOf p).size ≤ 140737488355328 := by
        unfold dirOf
        rw [ByteArray.size_extract]
        omega
      exact (write_gone h hm p ⟨#[]⟩ hp hpath hd' hds).mono fun e w' ⟨h1, h2⟩ => ⟨2, h1, rfl, h2.base n0 (by omega) (by simp)⟩
set_option maxHeartbeats 800000 in
set_option maxRecDepth 100000 in
theorem paths_any (p : ByteArray) (w : World) (hm : MaxAt w) (hp : p.size ≤ 140737488355328) : Calls Tryd.prog 3 #[.string p] w fun e w' => e = .returned (.bool true) ∧ Below w.heap.size w w' := by
  obtain ⟨n0, hn0⟩ : ∃ n0, w.heap.size = n0 := ⟨_, rfl⟩
  have hpos : 0 < n0 := by have := hm.pos; omega
  have HN := hideIt (new_at 10 w)
  rw [hn0] at HN
  have HM := hideIt hm
  have HW := hideIt (fun X h hm => write_tells (w := X) (fb := n0) (n0 := n0) h hm (Nat.le_refl _) p hp)
  have HA := hideIt (fun X hX => awake_any X hX)
  have HP := hideIt (fun X hX => path_any p X hX hp)
  have HR : Hid (∀ X, Calls Tryd.prog 8 #[.string p] X fun e w' => e = .returned (.bool (pathL p.data.toList)) ∧ X = w') := hideIt (fun X => (refpath_any p X hp).mono fun _ _ h => ⟨h.1, h.2.symm⟩)
  have HZ : Hid (w.heap.size = n0) := hideIt hn0
  rw [hn0]
  generalize pathL p.data.toList = y at HW HP HR
  clear hm hn0
  cases y
  all_goals go_enter Tryd.func3, Tryd.ntmps3
  all_goals go_wp2_with (first | (go_at_call 4; refine HN.out.mono ?_; rintro e w1 ⟨rfl, hf1, hk1, hz1⟩; have HB1 : Hid (Below n0 w w1) := hideIt (hk1.base n0 (by rw [HZ.out]; exact Nat.le_refl _) (by simp)); have HF1 := hideIt hf1; clear hf1 hk1 hz1))
  all_goals go_wp2_with (first | (go_at_call 5; refine (HW.out _ HF1.out (HM.out.base HB1.out hpos)).mono ?_; rintro e w2 ⟨n, rfl, hn, hb2⟩; have HB2 := hideIt (bbase HB1.out hb2); clear hb2))
  all_goals simp only [Bool.not_true, Bool.not_false] at hn
  all_goals go_wp2_with (first | (go_at_call 6; refine (HA.out _ (HM.out.base HB2.out hpos)).mono ?_; rintro e w3 ⟨rfl, hb3⟩; have HB3 : Hid (Below n0 w w3) := hideIt (bbase HB2.out (hb3.mono (Nat.le_trans (Nat.le_of_eq HZ.out.symm) HB2.out.size))); clear hb3) | (go_at_call 7; refine (HP.out _ (HM.out.base HB3.out hpos)).mono ?_; rintro e w4 ⟨rfl, hb4⟩; have HB4 : Hid (Below n0 w w4) := hideIt (bbase HB3.out (hb4.mono (Nat.le_trans (Nat.le_of_eq HZ.out.symm) HB3.out.size))); clear hb4) | (go_at_call 8; refine (HR.out _).mono ?_; rintro e wx ⟨rfl, rfl⟩))
  all_goals go_ret
  all_goals exact ⟨rfl, HB4.out⟩
end Go.Proofs.YtefefgiooknpkaaDoor
