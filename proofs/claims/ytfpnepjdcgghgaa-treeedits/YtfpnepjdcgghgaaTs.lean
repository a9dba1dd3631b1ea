/- The document's copy: the word of a mode, a tree's bytes, where a byte first stands, walked. -/
import Derived.Test.YtfpnepjdcgghgaaTr
namespace Go.Proofs.Ytfpnepjdcgghgaa
open Go.RowKit Go.Shelf
theorem undrew {w w' : World} (h : Below w.drew.heap.size w.drew w') : Below w.heap.size w w' := ⟨h.os, h.tape, h.output, h.size, h.block⟩
set_option maxHeartbeats 800000 in
set_option maxRecDepth 100000 in
theorem refmode_any (m : Int) (h : 1 ≤ m ∧ m ≤ 3) (w : World) : Calls Try.prog 26 #[.int .i64 m] w fun e w' => e = .returned (.string (bs (word m))) ∧ Below w.heap.size w w' := by
  rcases (by omega : m = 1 ∨ m = 2 ∨ m = 3) with rfl | rfl | rfl
  all_goals go_enter Try.func26, Try.ntmps26
  all_goals go_wp2
  all_goals go_ret
  all_goals exact ⟨rfl, (Below.refl _ _).alloc (Nat.le_refl _) _⟩
set_option maxHeartbeats 1600000 in
set_option maxRecDepth 100000 in
theorem refput_any (v : Value) (l : List En) (w : World) (h : ERow w v l) (hn : l.length ≤ 300) (hall : ∀ x ∈ l, wf x ∧ x.nm.size ≤ 64) : Calls Try.prog 14 #[v] w fun e w' => e = .returned (.string (bs (encL l))) ∧ Below w.heap.size w w' := by
  obtain ⟨a, c, rfl, hlc, hcm, hrow⟩ := h
  have HR := hideIt hrow
  have HA := hideIt hall
  have HM := hideIt (refmode_any)
  have HL : Hid (∀ i, (encL (l.take i)).length ≤ 102 * 300) := hideIt (fun i => by
    have := encL_len (l.take i) (fun x hx => hall x (List.mem_of_mem_take hx))
    have h2 : (l.take i).length ≤ 300 := by rw [List.length_take]; omega
    omega)
  obtain ⟨n, hnn⟩ : ∃ n, l.length = n := ⟨_, rfl⟩
  rw [hnn] at hlc hn ⊢
  have HN := hideIt hnn
  have nI : (n : Int) ≤ 300 := by omega
  clear hnn hrow hall
  go_enter Try.func14, Try.ntmps14
  go_wp2
  go_loopw [3, 4] (fun u t wr => ∃ i : Nat, i ≤ n ∧ t = .int .i64 i ∧ u = .string (bs (encL (l.take i))) ∧ Below w.heap.size w wr) (fun _ t _ => n - (intOf t).toNat)
  case atStart => exact ⟨0, by omega, rfl, rfl, Below.refl _ _⟩
  case round =>
    obtain ⟨i, hi, rfl, rfl, hb⟩ := hrel
    have HB := hideIt hb
    clear hb
    by_cases hlt : i < n
    · have i1 : (i : Int) < (n : Int) := by omega
      have i2 : decide ((i : Int) < (n : Int)) = true := decide_eq_true i1
      obtain ⟨b, o, rfl, hcells⟩ := HR.out (by rw [HN.out]; omega)
      obtain ⟨x, hxi⟩ : ∃ x, l[i]? = some x := ⟨l[i]'(by rw [HN.out]; exact hlt), by simp⟩
      have hcr := hcells.below HB.out
      obtain ⟨c0, c1, c2⟩ := hcr.2 i x hxi
      have HCE : Hid (∀ w1, Below wr.heap.size wr w1 → w1.cell? ⟨b, o + i * 3, none⟩ = some (.string x.nm) ∧ w1.cell? ⟨b, o + i * 3 + 1, none⟩ = some (.int .i64 x.md) ∧ w1.cell? ⟨b, o + i * 3 + 2, none⟩ = some (.string x.ids)) := hideIt (fun w1 h1 => (hcr.below h1).2 i x hxi)
      have hxa := HA.out x (List.mem_of_getElem? hxi)
      have HE := hideIt (encL_take l i x hxi)
      have hA := HL.out i
      have HM2 := hideIt (HM.out x.md hxa.1.2.1)
      obtain ⟨A, hAA⟩ : ∃ A, bs (encL (l.take i)) = A := ⟨_, rfl⟩
      have sA : A.size ≤ 30600 := by rw [← hAA, bs_size]; omega
      obtain ⟨W0, hW0⟩ : ∃ W0, bs (word x.md) = W0 := ⟨_, rfl⟩
      have s0 : W0.size ≤ 64 := by rw [← hW0]; exact word_len _
      have sn : x.nm.size ≤ 64 := hxa.2
      have si : x.ids.size ≤ 64 := by have := hxa.1.2.2; omega
      obtain ⟨W1, hW1⟩ : ∃ W1, W0 ++ ⟨#[32]⟩ = W1 := ⟨_, rfl⟩
      have s1 : W1.size ≤ 65 := by rw [← hW1, ByteArray.size_append]; show W0.size + 1 ≤ 65; omega
      obtain ⟨W2, hW2⟩ : ∃ W2, W1 ++ x.nm = W2 := ⟨_, rfl⟩
      have s2 : W2.size ≤ 129 := by rw [← hW2, ByteArray.size_append]; omega
      obtain ⟨W3, hW3⟩ : ∃ W3, W2 ++ ⟨#[0]⟩ = W3 := ⟨_, rfl⟩
      have s3 : W3.size ≤ 130 := by rw [← hW3, ByteArray.size_append]; show W2.size + 1 ≤ 130; omega
      obtain ⟨W4, hW4⟩ : ∃ W4, W3 ++ x.ids = W4 := ⟨_, rfl⟩
      have s4 : W4.size ≤ 194 := by rw [← hW4, ByteArray.size_append]; omega
      obtain ⟨A2, hA2⟩ : ∃ A2, A ++ W4 = A2 := ⟨_, rfl⟩
      have HA2 : Hid (A2 = bs (encL (l.take (i + 1)))) := hideIt (by
        rw [← hA2, ← hW4, ← hW3, ← hW2, ← hW1, ← hW0, ← hAA, HE.out]
        apply bytes_ext
        simp [bs_list, enc1])
      have t1 : ¬ 9223372036854775807 < W0.size + 1 := by omega
      have t1a : ¬ 9223372036854775806 < W0.size := by omega
      have z1 : (⟨#[32]⟩ : ByteArray).size = 1 := rfl
      have z0 : (⟨#[0]⟩ : ByteArray).size = 1 := rfl
      have t2 : ¬ 9223372036854775807 < W1.size + x.nm.size := by omega
      have t3 : ¬ 9223372036854775807 < W2.size + 1 := by omega
      have t3a : ¬ 9223372036854775806 < W2.size := by omega
      have t4 : ¬ 9223372036854775807 < W3.size + x.ids.size := by omega
      have t5 : ¬ 9223372036854775807 < A.size + W4.size := by omega
      rw [hW0] at HM2
      rw [hAA]
      clear hcells hcr hxi hxa hA hAA hW0
      go_wp2
      go_region_held3 (fun X => X.cell? ⟨b, o + i * 3, none⟩ = some (.string x.nm) ∧ X.cell? ⟨b, o + i * 3 + 1, none⟩ = some (.int .i64 x.md) ∧ X.cell? ⟨b, o + i * 3 + 2, none⟩ = some (.string x.ids)) (first | exact ⟨c0, c1, c2⟩ | exact HCE.out _ (undrew hb1) | assumption) (first | (go_at_call 26; refine (HM2.out _).mono ?_; rintro e w1 ⟨rfl, hb1⟩))
      go_wp2
      go_roundw
      case rel => exact ⟨i + 1, by omega, by go_num, by rw [HA2.out], below2 HB.out (undrew hb1)⟩
      case measure => simp [intOf]; omega
    · obtain rfl : i = n := by omega
      have i2 : decide ((i : Int) < (i : Int)) = false := decide_eq_false (by omega)
      go_wp2
      go_ret
      refine ⟨?_, HB.out⟩
      rw [← HN.out, List.take_length]
      rfl
end Go.Proofs.Ytfpnepjdcgghgaa
