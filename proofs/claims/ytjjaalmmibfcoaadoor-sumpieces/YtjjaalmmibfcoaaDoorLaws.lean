/- The laws of layer 1, walked. -/
import Derived.Test.YtjjaalmmibfcoaaDoorFew
import Derived.Test.YtjjaalmmibfcoaaDoorRef
namespace Go.Proofs.YtjjaalmmibfcoaaDoor
open Go.RowKit
theorem below_step {B : Nat} {w a b : World} (h : Below B w a) (hB : B ≤ w.heap.size) (k : Below a.heap.size a b) : Below B w b := h.trans (k.mono (Nat.le_trans hB h.size))
theorem K_step {w a : World} (hK : KAt w) (h : Below w.heap.size w a) : KAt a := K_below h (K_pos hK) hK
theorem new_below (w : World) : Below w.heap.size w (w.alloc (.cells (Sha.stA (fun _ => 0#32) (fun _ => 0) 0) 45)) := (Below.refl _ _).alloc (Nat.le_refl _) _
set_option maxHeartbeats 400000 in
set_option maxRecDepth 100000 in
theorem none_law (s : ByteArray) (w : World) (hs : s.size ≤ maxLen) (hK : KAt w) :
    Calls Tryd.prog 6 #[.string s] w fun e w' => e = .returned (.bool true) ∧ Below w.heap.size w w' := by
  have HK := hideIt hK
  have HL := hideIt hs
  clear hK hs
  have hr : ∀ w, Calls Tryd.prog 10 #[.string ⟨#[]⟩] w fun e w' => e = .returned (.string (Sha.sha [])) ∧ Below w.heap.size w w' := fun w => ref_any ⟨#[]⟩ w (by decide)
  have HR := hideIt hr
  clear hr
  go_enter Tryd.func6, Tryd.ntmps6
  go_wp2_with (first | (go_at_call 9; refine (few_any s _ HL.out).mono ?_; rintro e w0 ⟨rfl, rfl⟩) | (go_at_call 12; refine (write_nil _ _).mono ?_; rintro e w0 ⟨rfl, rfl⟩) | (go_at_call 7; refine (awake_any _ HK.out).mono ?_; rintro e w1 ⟨rfl, hb1⟩) | (go_at_call_of 13 (Value.pointer none); refine (sum_nil _).mono ?_; rintro e w0 ⟨rfl, rfl⟩) | (go_at_call 11; refine (new_any _).mono ?_; rintro e w0 ⟨rfl, rfl⟩))
  refine (sum_any _ [] (fun _ => 0#32) (fun _ => 0) _ ?_ (alloc_at rfl) (fun h => absurd rfl h) (by decide)).mono ?_
  · exact K_step (K_step HK.out hb1) (new_below _)
  rintro e w3 ⟨rfl, hb3⟩
  go_wp2_with (first | (go_at_call 10; refine (HR.out _).mono ?_; rintro e w4 ⟨rfl, hb4⟩))
  go_ret
  exact ⟨rfl, below_step (below_step (below_step hb1 (Nat.le_refl _) (new_below _)) (Nat.le_refl _) hb3) (Nat.le_refl _) hb4⟩
set_option maxHeartbeats 400000 in
set_option maxRecDepth 100000 in
theorem of_law (s : ByteArray) (w : World) (hs : s.size ≤ maxLen) (hK : KAt w) :
    Calls Tryd.prog 3 #[.string s] w fun e w' => e = .returned (.bool true) ∧ Below w.heap.size w w' := by
  have HK := hideIt hK
  have HL := hideIt hs
  have hf := fewS_size s
  clear hK hs
  go_enter Tryd.func3, Tryd.ntmps3
  go_wp2_with (first | (go_at_call 9; refine (few_any s _ HL.out).mono ?_; rintro e w0 ⟨rfl, rfl⟩) | (go_at_call 7; refine (awake_any _ HK.out).mono ?_; rintro e w1 ⟨rfl, hb1⟩) | (go_at_call 8; refine (of_any (fewS s) _ (K_step HK.out hb1) (by omega)).mono ?_; rintro e w2 ⟨rfl, hb2⟩) | (go_at_call 10; refine (ref_any (fewS s) _ (by omega)).mono ?_; rintro e w3 ⟨rfl, hb3⟩))
  go_ret
  exact ⟨rfl, below_step (below_step hb1 (Nat.le_refl _) hb2) (Nat.le_refl _) hb3⟩
end Go.Proofs.YtjjaalmmibfcoaaDoor
