/- The document's bytes of an object, walked. -/
import Derived.Test.YtdbbgpcjclmelaaGreatDoorOo
namespace Go.Proofs.YtdbbgpcjclmelaaGreatDoor
namespace Ob
open Go.RowKit Go.Shelf
set_option maxHeartbeats 400000 in
set_option maxRecDepth 100000 in
theorem refraw_any (k : Int) (h : 1 ≤ k ∧ k ≤ 4) (b : ByteArray) (w : World) (hb : b.size ≤ 1000000) :
    Calls Tryz.prog 15 #[.int .i64 k, .string b] w fun e w' => e = .returned (.string (bs (rawL k b.data.toList))) ∧ Below w.heap.size w w' := by
  have HW := hideIt (fun w => refkind_any k (by omega) w)
  have HRL : Hid (bs (rawL k b.data.toList) = bs (kw k) ++ ⟨#[32]⟩ ++ bs (Lib.decDigits b.size) ++ ⟨#[0]⟩ ++ b) := hideIt (rawS_eq k b)
  have sk : (bs (kw k)).size ≤ 6 := by rw [bs_size]; exact kw_len k
  have sd : (bs (Lib.decDigits b.size)).size ≤ 20 := by rw [bs_size]; exact nd_dec _ hb
  have HD : Hid (∀ w, Calls Tryz.prog 28 #[.int .u64 (b.size : Int)] w fun e w' => e = .returned (.string (bs (Lib.decDigits b.size))) ∧ Below w.heap.size w w') := hideIt (fun w => Cb.refdec_any b.size w (by omega))
  obtain ⟨A, hA⟩ : ∃ A, bs (kw k) = A := ⟨_, rfl⟩
  obtain ⟨D, hD⟩ : ∃ D, bs (Lib.decDigits b.size) = D := ⟨_, rfl⟩
  rw [hA] at HW sk HRL
  rw [hD] at HD HRL sd
  have t1 : ¬ 9223372036854775807 < A.size + 1 := by omega
  have t2 : ¬ 9223372036854775807 < A.size + 1 + D.size := by omega
  have t3 : ¬ 9223372036854775807 < A.size + 1 + D.size + 1 := by omega
  have t4 : ¬ 9223372036854775807 < A.size + 1 + D.size + 1 + b.size := by omega
  clear h hA hD
  go_enter Tryz.func15, Tryz.ntmps15
  go_wp2_with (first | (go_at_call 27; refine (HW.out _).mono ?_; rintro e w1 ⟨rfl, hb1⟩) | (go_at_call 28; refine (HD.out _).mono ?_; rintro e w2 ⟨rfl, hb2⟩))
  go_ret
  exact ⟨by rw [HRL.out] <;> rfl, below2 hb1 hb2⟩
end Ob
end Go.Proofs.YtdbbgpcjclmelaaGreatDoor
