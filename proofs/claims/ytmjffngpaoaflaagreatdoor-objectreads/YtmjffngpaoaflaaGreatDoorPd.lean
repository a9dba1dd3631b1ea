/- The document's id, walked. -/
import Derived.Test.YtmjffngpaoaflaaGreatDoorPl
import Derived.Test.YtmjffngpaoaflaaGreatDoorOu
import Derived.Test.YtmjffngpaoaflaaGreatDoorCbAll
namespace Go.Proofs.YtmjffngpaoaflaaGreatDoor
namespace Ob
open Go.RowKit Go.Shelf
set_option maxHeartbeats 1600000 in
set_option maxRecDepth 100000 in
theorem refid_any (L : List UInt8) (hL : L.length ≤ 1000000) (w : World) :
    Calls Tryz.prog 52 #[.string (bs L)] w fun e w' => e = .returned (.tuple #[.string (unhB L), .bool (idO L)]) ∧ Below w.heap.size w w' := by
  have HU := hideIt (fun w => Cb.refunhex_any (bs L) w (by rw [bs_size]; exact hL))
  rw [bs_list, unhV_eq] at HU
  have hd : idO L = (unhO L && decide ((unhB L).size = 32)) := rfl
  rw [hd]
  obtain ⟨u, hu⟩ : ∃ u, unhO L = u := ⟨_, rfl⟩
  obtain ⟨B, hB⟩ : ∃ B, unhB L = B := ⟨_, rfl⟩
  rw [hu, hB] at HU ⊢
  obtain ⟨S, hS⟩ : ∃ S, bs L = S := ⟨_, rfl⟩
  rw [hS] at HU ⊢
  clear hd hu hB hS hL
  by_cases h32 : B.size = 32
  · have h1 : ((B.size : Int) == 32) = true := by simp; omega
    rw [decide_eq_true h32]
    cases u with
    | true =>
      simp only [if_true] at HU
      go_enter Tryz.func52, Tryz.ntmps52
      go_wp2_with (go_at_call 78; refine (HU.out _).mono ?_; rintro e w1 ⟨rfl, hb⟩)
      (try simp only [Exit.inBlock, Exit.then])
      refine bodyPost_ret (v := .tuple #[.string B, .bool true]) ?_ rfl ⟨rfl, hb⟩
      rw [results_tmp2 rfl]
      go_simp
    | false =>
      simp only [Bool.false_eq_true, if_false] at HU
      go_enter Tryz.func52, Tryz.ntmps52
      go_wp2_with (go_at_call 78; refine (HU.out _).mono ?_; rintro e w1 ⟨rfl, hb⟩)
      (try simp only [Exit.inBlock, Exit.then])
      refine bodyPost_ret (v := .tuple #[.string B, .bool false]) ?_ rfl ⟨rfl, hb⟩
      rw [results_tmp2 rfl]
      go_simp
  · have h1 : ((B.size : Int) == 32) = false := by simp; omega
    rw [decide_eq_false h32]
    cases u with
    | true =>
      simp only [if_true] at HU
      go_enter Tryz.func52, Tryz.ntmps52
      go_wp2_with (go_at_call 78; refine (HU.out _).mono ?_; rintro e w1 ⟨rfl, hb⟩)
      (try simp only [Exit.inBlock, Exit.then])
      refine bodyPost_ret (v := .tuple #[.string B, .bool false]) ?_ rfl ⟨rfl, hb⟩
      rw [results_tmp2 rfl]
      go_simp
    | false =>
      simp only [Bool.false_eq_true, if_false] at HU
      go_enter Tryz.func52, Tryz.ntmps52
      go_wp2_with (go_at_call 78; refine (HU.out _).mono ?_; rintro e w1 ⟨rfl, hb⟩)
      (try simp only [Exit.inBlock, Exit.then])
      refine bodyPost_ret (v := .tuple #[.string B, .bool false]) ?_ rfl ⟨rfl, hb⟩
      rw [results_tmp2 rfl]
      go_simp
end Ob
end Go.Proofs.YtmjffngpaoaflaaGreatDoor
