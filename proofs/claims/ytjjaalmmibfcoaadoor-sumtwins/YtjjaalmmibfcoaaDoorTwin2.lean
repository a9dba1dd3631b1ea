/- Twins, walked. -/
import Derived.Test.YtjjaalmmibfcoaaDoorLaws
import Derived.Deep.QuietTactic
import Derived.BigQuiet
namespace Go.Proofs.YtjjaalmmibfcoaaDoor
open Go.RowKit
theorem tw_keep {N : Nat} {a b : ByteArray} {w0 w w1 : World} (hb : Below w.heap.size w w1)
    (h : w.cell? ⟨N, 0, none⟩ = some (.string a) ∧ w.cell? ⟨N, 1, none⟩ = some (.string b) ∧ KAt w ∧ Below N w0 w ∧ N < w.heap.size) :
    w1.cell? ⟨N, 0, none⟩ = some (.string a) ∧ w1.cell? ⟨N, 1, none⟩ = some (.string b) ∧ KAt w1 ∧ Below N w0 w1 ∧ N < w1.heap.size :=
  ⟨by rw [hb.cell (p := ⟨N, 0, none⟩) h.2.2.2.2]; exact h.1, by rw [hb.cell (p := ⟨N, 1, none⟩) h.2.2.2.2]; exact h.2.1, K_step h.2.2.1 hb, h.2.2.2.1.trans (hb.mono (Nat.le_of_lt h.2.2.2.2)), Nat.lt_of_lt_of_le h.2.2.2.2 hb.size⟩
set_option maxHeartbeats 1000000 in
set_option maxRecDepth 100000 in
theorem twin_ne (a b : ByteArray) (w : World) (ha : a.size ≤ 400) (hb : b.size ≤ 400) (hK : KAt w) (hn : (a.toList == b.toList) = false) :
    Calls Tryd.prog 14 #[.agg #[.string a, .string b]] w fun e w' => e = .returned (.bool ((Sha.sha a.data.toList).toList == (Sha.sha b.data.toList).toList)) ∧ Below w.heap.size w w' := by
  have HK := hideIt hK
  clear hK
  have HS : Hid ((w.alloc (.cells #[.string a, .string b] 33)).drew.cell? ⟨w.heap.size, 0, none⟩ = some (.string a) ∧ (w.alloc (.cells #[.string a, .string b] 33)).drew.cell? ⟨w.heap.size, 1, none⟩ = some (.string b) ∧ KAt (w.alloc (.cells #[.string a, .string b] 33)).drew ∧ Below w.heap.size w (w.alloc (.cells #[.string a, .string b] 33)).drew ∧ w.heap.size < (w.alloc (.cells #[.string a, .string b] 33)).drew.heap.size) := by
    have hbw : Below w.heap.size w (w.alloc (.cells #[.string a, .string b] 33)).drew := ((Below.refl _ _).alloc (Nat.le_refl _) _).drew
    exact ⟨by simp, by simp, K_step HK.out hbw, hbw, by rw [heap_drew]; simp⟩
  go_enter Tryd.func14, Tryd.ntmps14
  go_wp2
  go_region_held3 (fun w' => w'.cell? ⟨w.heap.size, 0, none⟩ = some (.string a) ∧ w'.cell? ⟨w.heap.size, 1, none⟩ = some (.string b) ∧ KAt w' ∧ Below w.heap.size w w' ∧ w.heap.size < w'.heap.size) (first | (exact HS.out) | (exact tw_keep hb1 (by assumption)))
    (first | (go_at_call_of 8 (Value.string a); refine (of_any a _ ?_ (by omega)).mono ?_; exact (‹_ ∧ _ ∧ KAt _ ∧ _ ∧ _›).2.2.1; rintro e w1 ⟨rfl, hb1⟩) | (go_at_call_of 8 (Value.string b); refine (of_any b _ ?_ (by omega)).mono ?_; exact (‹_ ∧ _ ∧ KAt _ ∧ _ ∧ _›).2.2.1; rintro e w1 ⟨rfl, hb1⟩))
  all_goals
    go_wp2
    go_ret
    exact ⟨rfl, (‹_ ∧ _ ∧ KAt _ ∧ _ ∧ _›).2.2.2.1⟩
set_option maxHeartbeats 1000000 in
set_option maxRecDepth 100000 in
theorem twin_eq (a b : ByteArray) (w : World) (hn : (a.toList == b.toList) = true) :
    Calls Tryd.prog 14 #[.agg #[.string a, .string b]] w fun e w' => e = .returned (.bool false) ∧ Below w.heap.size w w' := by
  go_enter Tryd.func14, Tryd.ntmps14
  go_wp2
  go_quiet (fail)
  all_goals
    go_wp2
    go_ret
    exact ⟨rfl, below_drewN ((Below.refl _ _).alloc (Nat.le_refl _) _) _⟩
set_option maxHeartbeats 1000000 in
set_option maxRecDepth 100000 in
theorem twins_law (a b : ByteArray) (w : World) (ha : a.size ≤ maxLen) (hb : b.size ≤ maxLen) (hK : KAt w) :
    Calls Tryd.prog 5 #[.string a, .string b] w fun e w' => e = .returned (.bool true) ∧ Below w.heap.size w w' := by
  have HK := hideIt hK
  have HF := hideIt (few_any a w ha)
  have HG := hideIt (few_any b w hb)
  obtain ⟨x, hx⟩ : ∃ x, fewS a = x := ⟨_, rfl⟩
  obtain ⟨y, hy⟩ : ∃ y, fewS b = y := ⟨_, rfl⟩
  have xl := fewS_size a
  have yl := fewS_size b
  rw [hx] at HF xl
  rw [hy] at HG yl
  have hxx : (x.toList == x.toList) = true := by simp
  have HX := hideIt hxx
  clear hK ha hb hx hy hxx
  by_cases h : (x.toList == y.toList) = true
  · have H := hideIt h
    go_enter Tryd.func5, Tryd.ntmps5
    go_wp2_with (first | (go_at_call_of 9 (Value.string a); refine HF.out.mono ?_; rintro e w0 ⟨rfl, rfl⟩) | (go_at_call_of 9 (Value.string b); refine HG.out.mono ?_; rintro e w0 ⟨rfl, rfl⟩) | (go_at_call 7; refine (awake_any _ HK.out).mono ?_; rintro e w1 ⟨rfl, hb1⟩) | (go_at_call_of 14 (Value.agg #[Value.string x, Value.string y]); refine (twin_eq x y _ H.out).mono ?_; rintro e w2 ⟨rfl, hb2⟩) | (go_at_call 14; refine (twin_eq x x _ HX.out).mono ?_; rintro e w3 ⟨rfl, hb3⟩))
    go_ret
    exact ⟨rfl, below_step (below_step hb1 (Nat.le_refl _) hb2) (Nat.le_refl _) hb3⟩
  · have h' : (x.toList == y.toList) = false := by simpa using h
    have H := hideIt h'
    clear h
    go_enter Tryd.func5, Tryd.ntmps5
    go_wp2_with (first | (go_at_call_of 9 (Value.string a); refine HF.out.mono ?_; rintro e w0 ⟨rfl, rfl⟩) | (go_at_call_of 9 (Value.string b); refine HG.out.mono ?_; rintro e w0 ⟨rfl, rfl⟩) | (go_at_call 7; refine (awake_any _ HK.out).mono ?_; rintro e w1 ⟨rfl, hb1⟩) | (go_at_call_of 14 (Value.agg #[Value.string x, Value.string y]); refine (twin_ne x y _ xl yl (K_step HK.out hb1) H.out).mono ?_; rintro e w2 ⟨rfl, hb2⟩) | (go_at_call_of 10 (Value.string x); refine (ref_any x _ (by omega)).mono ?_; rintro e w3 ⟨rfl, hb3⟩) | (go_at_call_of 10 (Value.string y); refine (ref_any y _ (by omega)).mono ?_; rintro e w4 ⟨rfl, hb4⟩) | (go_at_call 14; refine (twin_eq x x _ HX.out).mono ?_; rintro e w5 ⟨rfl, hb5⟩))
    go_ret
    exact ⟨rfl, below_step (below_step (below_step (below_step hb1 (Nat.le_refl _) hb2) (Nat.le_refl _) hb3) (Nat.le_refl _) hb4) (Nat.le_refl _) hb5⟩
end Go.Proofs.YtjjaalmmibfcoaaDoor
