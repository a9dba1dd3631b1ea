/- The waking test of the laws on names, walked. -/
import Derived.Test.YtgbmfhbodfmpbaaDoorLby
namespace Go.Proofs.YtgbmfhbodfmpbaaDoor
open Go.RowKit
theorem words_awk (w : World) : Calls Tryd.prog 15 #[.string ⟨#[97, 255, 98]⟩] w fun e w' => e = .returned (.tuple #[.int .i64 2, .int .i64 1]) ∧ Below w.heap.size w w' := by
  have h := words_any ⟨#[97, 255, 98]⟩ w (by decide)
  have e1 : Lb.good ⟨#[97, 255, 98]⟩ (ByteArray.mk #[97, 255, 98]).size 0 = 2 := by decide +kernel
  have e2 : Lb.bad ⟨#[97, 255, 98]⟩ (ByteArray.mk #[97, 255, 98]).size 0 = 1 := by decide +kernel
  rw [e1, e2] at h
  exact h
theorem name_awk1 (w : World) : Calls Tryd.prog 12 #[.string ⟨#[97, 32, 98]⟩] w fun e w' => e = .returned (.bool true) ∧ Below w.heap.size w w' := by
  have h := name_any ⟨#[97, 32, 98]⟩ w
  have e1 : Lb.nameB ⟨#[97, 32, 98]⟩ = true := by decide +kernel
  rw [e1] at h
  exact h
theorem name_awk2 (w : World) : Calls Tryd.prog 12 #[.string ⟨#[97, 47, 98]⟩] w fun e w' => e = .returned (.bool false) ∧ Below w.heap.size w w' := by
  have h := name_any ⟨#[97, 47, 98]⟩ w
  have e1 : Lb.nameB ⟨#[97, 47, 98]⟩ = false := by decide +kernel
  rw [e1] at h
  exact h
theorem head_awk1 (w : World) : Calls Tryd.prog 16 #[.string ⟨#[104, 101, 97, 100, 115, 47, 120]⟩] w fun e w' => e = .returned (.bool true) ∧ Below w.heap.size w w' := by
  have h := head_any ⟨#[104, 101, 97, 100, 115, 47, 120]⟩ w
  have e1 : headB ⟨#[104, 101, 97, 100, 115, 47, 120]⟩ = true := by decide +kernel
  rw [e1] at h
  exact h
theorem head_awk2 (w : World) : Calls Tryd.prog 16 #[.string ⟨#[116, 97, 103, 115, 47, 120]⟩] w fun e w' => e = .returned (.bool false) ∧ Below w.heap.size w w' := by
  have h := head_any ⟨#[116, 97, 103, 115, 47, 120]⟩ w
  have e1 : headB ⟨#[116, 97, 103, 115, 47, 120]⟩ = false := by decide +kernel
  rw [e1] at h
  exact h
set_option maxHeartbeats 800000 in
set_option maxRecDepth 100000 in
theorem awake_any (w : World) : Calls Tryd.prog 8 #[] w fun e w' => e = .returned (.bool true) ∧ Below w.heap.size w w' := by
  go_enter Tryd.func8, Tryd.ntmps8
  go_wp2_with fail
  refine (words_awk _).mono ?_
  rintro e w1 ⟨rfl, hb1⟩
  go_wp2_with fail
  refine (name_awk1 _).mono ?_
  rintro e w2 ⟨rfl, hb2⟩
  go_wp2_with fail
  refine (name_awk2 _).mono ?_
  rintro e w3 ⟨rfl, hb3⟩
  go_wp2_with fail
  refine (head_awk1 _).mono ?_
  rintro e w4 ⟨rfl, hb4⟩
  go_wp2_with fail
  refine (head_awk2 _).mono ?_
  rintro e w5 ⟨rfl, hb5⟩
  go_wp2_with fail
  go_ret
  exact ⟨rfl, below2 hb1 (below2 hb2 (below2 hb3 (below2 hb4 hb5)))⟩
end Go.Proofs.YtgbmfhbodfmpbaaDoor
