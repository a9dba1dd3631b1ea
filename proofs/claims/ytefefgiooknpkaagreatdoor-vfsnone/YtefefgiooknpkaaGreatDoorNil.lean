/- What a nil one answers: each call, walked. -/
import Derived.Test.YtefefgiooknpkaaGreatDoorFsd
namespace Go.Proofs.YtefefgiooknpkaaGreatDoor
open Go.RowKit Go.Shelf Go.Maps
set_option maxRecDepth 100000
theorem dead_nil (w : World) : Calls Tryz.prog 25 #[.pointer none] w fun e w' => e = .returned (.bool true) ∧ w' = w := by
  go_enter Tryz.func25, Tryz.ntmps25
  go_wp2
  go_ret
  exact ⟨rfl, rfl⟩
theorem up_nil (w : World) : Calls Tryz.prog 18 #[.pointer none] w fun e w' => e = .returned (.bool false) ∧ w' = w := by
  go_enter Tryz.func18, Tryz.ntmps18
  go_wp2
  go_ret
  exact ⟨rfl, rfl⟩
theorem used_nil (w : World) : Calls Tryz.prog 20 #[.pointer none] w fun e w' => e = .returned (.int .i64 0) ∧ w' = w := by
  go_enter Tryz.func20, Tryz.ntmps20
  go_wp2
  go_ret
  exact ⟨rfl, rfl⟩
theorem steps_nil (w : World) : Calls Tryz.prog 26 #[.pointer none] w fun e w' => e = .returned (.int .i64 0) ∧ w' = w := by
  go_enter Tryz.func26, Tryz.ntmps26
  go_wp2
  go_ret
  exact ⟨rfl, rfl⟩
theorem loose_nil (w : World) : Calls Tryz.prog 27 #[.pointer none] w fun e w' => e = .returned (.int .i64 0) ∧ w' = w := by
  go_enter Tryz.func27, Tryz.ntmps27
  go_wp2
  go_ret
  exact ⟨rfl, rfl⟩
theorem clone_nil (w : World) : Calls Tryz.prog 24 #[.pointer none] w fun e w' => e = .returned (.pointer none) ∧ w' = w := by
  go_enter Tryz.func24, Tryz.ntmps24
  go_wp2
  go_ret
  exact ⟨rfl, rfl⟩
theorem room_nil (n : Int) (w : World) : Calls Tryz.prog 21 #[.pointer none, .int .i64 n] w fun e w' => e = .returned (.tuple #[]) ∧ w' = w := by
  go_enter Tryz.func21, Tryz.ntmps21
  go_wp2
  exact bodyPost_end (results_none Tryz.results21 _ _ _) rfl ⟨rfl, rfl⟩
theorem plan_nil (v : Value) (w : World) : Calls Tryz.prog 22 #[.pointer none, v] w fun e w' => e = .returned (.tuple #[]) ∧ w' = w := by
  go_enter Tryz.func22, Tryz.ntmps22
  go_wp2
  exact bodyPost_ret (results_none Tryz.results22 _ _ _) rfl ⟨rfl, rfl⟩
theorem crash_nil (k n : Int) (w : World) : Calls Tryz.prog 17 #[.pointer none, .int .u64 k, .int .i64 n] w fun e w' => e = .returned (.tuple #[]) ∧ Kept [] w w' := by
  have HD := hideIt (dead_nil)
  go_enter Tryz.func17, Tryz.ntmps17
  go_wp2_with (first | (go_at_call 25; refine (HD.out _).mono ?_; rintro e wx ⟨rfl, rfl⟩))
  exact bodyPost_ret (results_none Tryz.results17 _ _ _) rfl ⟨rfl, Kept.alloc _ _⟩
theorem hindered_nil (v : Value) (w : World) : Calls Tryz.prog 35 #[.pointer none, v] w fun e w' => e = .returned (.int .i64 7) ∧ w' = w := by
  have HD := hideIt (dead_nil)
  go_enter Tryz.func35, Tryz.ntmps35
  go_wp2_with (first | (go_at_call 25; refine (HD.out _).mono ?_; rintro e wx ⟨rfl, rfl⟩))
  go_ret
  exact ⟨rfl, rfl⟩
theorem mkdir_nil (p : ByteArray) (w : World) : Calls Tryz.prog 49 #[.pointer none, .string p] w fun e w' => e = .returned (.int .i64 7) ∧ Kept [] w w' := by
  have HH := hideIt (hindered_nil)
  go_enter Tryz.func49, Tryz.ntmps49
  go_wp2_with (first | (go_at_call 35; refine (HH.out _ _).mono ?_; rintro e wx ⟨rfl, rfl⟩))
  go_ret
  exact ⟨rfl, Kept.alloc _ _⟩
theorem write_nil (p s : ByteArray) (w : World) : Calls Tryz.prog 12 #[.pointer none, .string p, .string s] w fun e w' => e = .returned (.int .i64 7) ∧ Kept [] w w' := by
  have HH := hideIt (hindered_nil)
  go_enter Tryz.func12, Tryz.ntmps12
  go_wp2_with (first | (go_at_call 35; refine (HH.out _ _).mono ?_; rintro e wx ⟨rfl, rfl⟩))
  go_ret
  exact ⟨rfl, Kept.alloc _ _⟩
theorem sync_nil (p : ByteArray) (w : World) : Calls Tryz.prog 13 #[.pointer none, .string p] w fun e w' => e = .returned (.int .i64 7) ∧ Kept [] w w' := by
  have HH := hideIt (hindered_nil)
  go_enter Tryz.func13, Tryz.ntmps13
  go_wp2_with (first | (go_at_call 35; refine (HH.out _ _).mono ?_; rintro e wx ⟨rfl, rfl⟩))
  go_ret
  exact ⟨rfl, Kept.alloc _ _⟩
theorem rename_nil (p t : ByteArray) (w : World) : Calls Tryz.prog 14 #[.pointer none, .string p, .string t] w fun e w' => e = .returned (.int .i64 7) ∧ Kept [] w w' := by
  have HH := hideIt (hindered_nil)
  go_enter Tryz.func14, Tryz.ntmps14
  go_wp2_with (first | (go_at_call 35; refine (HH.out _ _).mono ?_; rintro e wx ⟨rfl, rfl⟩))
  go_ret
  exact ⟨rfl, Kept.alloc _ _⟩
theorem remove_nil (p : ByteArray) (w : World) : Calls Tryz.prog 50 #[.pointer none, .string p] w fun e w' => e = .returned (.int .i64 7) ∧ Kept [] w w' := by
  have HH := hideIt (hindered_nil)
  go_enter Tryz.func50, Tryz.ntmps50
  go_wp2_with (first | (go_at_call 35; refine (HH.out _ _).mono ?_; rintro e wx ⟨rfl, rfl⟩))
  go_ret
  exact ⟨rfl, Kept.alloc _ _⟩
theorem read_nil (p : ByteArray) (w : World) : Calls Tryz.prog 19 #[.pointer none, .string p] w fun e w' => e = .returned (.tuple #[.string ⟨#[]⟩, .int .i64 7]) ∧ Kept [] w w' := by
  have HH := hideIt (hindered_nil)
  go_enter Tryz.func19, Tryz.ntmps19
  go_wp2_with (first | (go_at_call 35; refine (HH.out _ _).mono ?_; rintro e wx ⟨rfl, rfl⟩))
  go_ret2
  exact ⟨rfl, Kept.alloc _ _⟩
theorem infoStr : (Tryz.prog.info? 9).map (fun i => (i.zero, i.size, i.bytes)) = some (some (.string ⟨#[]⟩), 1, 16) := by kernel_rfl
theorem one_str {w : World} (p : ByteArray) (j : Nat) (u : Value) (h : [Value.string p][j]? = some u) : (w.alloc (.cells #[.string p] 9)).cell? ((⟨w.heap.size, 0, none⟩ : Addr).add j) = some u := by
  rw [Addr.add_lit, Nat.zero_add, World.cell?_alloc_at _ _ _ _ rfl]
  simpa using h
theorem noFolder_nil (p : ByteArray) (w : World) : Calls Tryz.prog 44 #[.pointer none, .string p] w fun e w' => e = .returned (.int .i64 7) ∧ Kept [] w w' := by
  have HH := hideIt (hindered_nil)
  by_cases h0 : p.data.toList = []
  · obtain rfl : p = ⟨#[]⟩ := by rw [← bs_data p, h0]; rfl
    go_enter Tryz.func44, Tryz.ntmps44
    go_wp2_with (first | (go_at_call 35; refine (HH.out _ _).mono ?_; rintro e wx ⟨rfl, rfl⟩))
    go_ret
    exact ⟨rfl, Kept.refl _ _⟩
  · have e1 : (p.toList == []) = false := by rw [ByteArray.toList_eq]; simpa using h0
    have e2 : p.toList.isEmpty = false := by rw [ByteArray.toList_eq]; simpa using h0
    have e3 : (p.toList != []) = true := by rw [ByteArray.toList_eq]; simpa using h0
    obtain ⟨i0, hi0, hz0, hz1, hz2⟩ := info_parts infoStr
    have own : w.ownsRow 0 9 1 (.slice none 0 0) 0 [] := ⟨rfl, .inl ⟨rfl, rfl⟩⟩
    go_enter Tryz.func44, Tryz.ntmps44
    go_wp2_with (first | (at_builtin; refine wpList_append_own _ rfl _ _ 69 rfl 0 9 i0 _ 1 16 Tryz.underlying69 hi0 hz0 hz1 hz2 rfl (by decide) _ _ _ rfl (own.alloc _) ⟨w.heap.size, 0, none⟩ 1 1 [.string p] rfl rfl (one_str p) (by intro u hu; simp at hu; subst hu; rfl) (by unfold maxLen; omega) (by omega) (Nat.zero_le _) ?_; intro v' w2 hown2 hg2 _) | (go_at_call 35; refine (HH.out _ _).mono ?_; rintro e wx ⟨rfl, rfl⟩))
    go_ret
    exact ⟨rfl, ((Kept.alloc _ _).trans (Kept.of_grown (r := none) hg2)).sub (by simp)⟩
theorem syncDir_nil (p : ByteArray) (w : World) : Calls Tryz.prog 15 #[.pointer none, .string p] w fun e w' => e = .returned (.int .i64 7) ∧ Kept [] w w' := by
  have HH := hideIt (noFolder_nil p)
  go_enter Tryz.func15, Tryz.ntmps15
  go_wp2_with (first | (go_at_call 44; refine (HH.out _).mono ?_; rintro e wx ⟨rfl, hk⟩))
  go_ret
  exact ⟨rfl, ((Kept.alloc _ _).trans hk).sub (by simp)⟩
theorem list_nil (p : ByteArray) (w : World) : Calls Tryz.prog 33 #[.pointer none, .string p] w fun e w' => e = .returned (.tuple #[.slice none 0 0, .int .i64 7]) ∧ Kept [] w w' := by
  have HH := hideIt (noFolder_nil p)
  go_enter Tryz.func33, Tryz.ntmps33
  go_wp2_with (first | (go_at_call 44; refine (HH.out _).mono ?_; rintro e wx ⟨rfl, hk⟩))
  go_ret2
  exact ⟨rfl, hk⟩
end Go.Proofs.YtefefgiooknpkaaGreatDoor
