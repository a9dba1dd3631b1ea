/- Trees: an entry taken away, walked. -/
import Derived.Test.YtfpnepjdcgghgaaTt
namespace Go.Proofs.Ytfpnepjdcgghgaa
open Go.RowKit Go.Shelf
def OutTo (w : World) (l : List En) (t : ByteArray) (e : Ending) (w' : World) : Prop := ∃ v, e = .returned (.tuple #[v, .bool (found l t)]) ∧ w'.ownsRow w.heap.size 36 3 v (withoutL l t).length (esV (withoutL l t)) ∧ Below w.heap.size w w'
set_option maxHeartbeats 1600000 in
set_option maxRecDepth 100000 in
theorem without_any (v : Value) (l : List En) (t : ByteArray) (B : Nat) (w : World) (h : w.ownsRow B 36 3 v l.length (esV l)) (hn : l.length ≤ 1000) (hu : Up l) :
    Calls Try.prog 17 #[v, .string t] w fun e w' => OutTo w l t e w' := by
  have HS := hideIt (place_any v l t w (ERow.of_row h) (by omega) hu)
  have HT : Hid (∀ e w', OutTo w l t e w' ↔ ∃ v, e = .returned (.tuple #[v, .bool (found l t)]) ∧ w'.ownsRow w.heap.size 36 3 v (withoutL l t).length (esV (withoutL l t)) ∧ Below w.heap.size w w') := hideIt (fun _ _ => Iff.rfl)
  have HO := hideIt h
  have HFL := hideIt (found_lt l t)
  have HPL := hideIt (pos_le l t)
  have HWL : Hid (withoutL l t = l.take (pos l t) ++ l.drop (pos l t + (found l t).toNat)) := rfl
  obtain ⟨f, hf⟩ : ∃ f, found l t = f := ⟨_, rfl⟩
  obtain ⟨n, hnn⟩ : ∃ n, l.length = n := ⟨_, rfl⟩
  obtain ⟨p, hpp⟩ : ∃ p, pos l t = p := ⟨_, rfl⟩
  obtain ⟨q, hqq⟩ : ∃ q, p + f.toNat = q := ⟨_, rfl⟩
  rw [hpp, hnn] at HPL
  rw [hpp, hf, hnn] at HFL
  rw [hpp, hf, hqq] at HS HWL
  rw [hf] at HT
  have hpn : p ≤ n := HPL.out
  have hqn : q ≤ n := by
    cases f with
    | false => rw [← hqq]; simpa using hpn
    | true => have := HFL.out rfl; rw [← hqq]; simp; omega
  have hfq : decide ((p : Int) < (q : Int)) = f := by cases f <;> simp at hqq <;> simp <;> omega
  have HFQ : Hid (decide (p < q) = f) := hideIt (by cases f <;> simp at hqq <;> simp <;> omega)
  rw [hnn] at hn
  have HN := hideIt hnn
  have p1 : (p : Int) ≤ (n : Int) := by omega
  have p2 : (q : Int) ≤ (n : Int) := by omega
  have nI : (n : Int) ≤ 1000 := by omega
  have q1 : (0 : Int) ≤ (p : Int) := by omega
  have q2 : (0 : Int) ≤ (q : Int) := by omega
  rcases h.2 with ⟨rfl, h0⟩ | ⟨g, cap, cur, rfl, _, _, hc1, hc2, _⟩
  · obtain rfl : n = 0 := by omega
    obtain rfl : p = 0 := by omega
    obtain rfl : q = 0 := by omega
    obtain rfl : f = false := by rw [← hfq]; rfl
    clear h HFL HPL hpp hqq hnn hf hfq
    go_enter Try.func17, Try.ntmps17
    go_wp2_with (first | (go_at_call 28; refine HS.out.mono ?_; rintro e w1 ⟨rfl, hb1⟩))
    have hl0 : l = [] := List.length_eq_zero_iff.1 HN.out
    have HEND := hideIt (cat2 w1 _ _ _ _ (ERow.nil w1) (ERow.nil w1) (by simp))
    have HWL2 : Hid (withoutL l t = [] ++ []) := hideIt (by rw [HWL.out, hl0]; rfl)
    have HB1 := hideIt hb1
    clear hb1 hl0
    go_region_held3 (fun _ => True) (trivial) (first | (go_at_call 29; refine HEND.out.mono ?_; rintro e w2 ⟨v2, rfl, ho2, hb2⟩))
    go_wp2
    go_ret2
    refine (HT.out _ _).2 ⟨_, rfl, ?_, below2 HB1.out hb2⟩
    rw [HWL2.out]
    exact own_mono ho2 HB1.out.size
  · rw [hnn] at hc1 HS ⊢
    have c1 : (n : Int) ≤ (cap : Int) := by omega
    have c2 : (p : Int) ≤ (cap : Int) := by omega
    clear h HFL HPL hpp hqq hnn hf hfq
    go_enter Try.func17, Try.ntmps17
    go_wp2_with (first | (go_at_call 28; refine HS.out.mono ?_; rintro e w1 ⟨rfl, hb1⟩))
    have hcells := row_cells (own_below HO.out hb1)
    have HB1 := hideIt hb1
    have ht := third_row hcells hc2 HN.out hqn hc1
    have HF := hideIt (first_row hcells hc2 HN.out hpn hc1)
    obtain ⟨r, hr⟩ : ∃ r, cap - q = r := ⟨_, rfl⟩
    obtain ⟨r2, hr2⟩ : ∃ r2, n - q = r2 := ⟨_, rfl⟩
    rw [hr, hr2] at ht
    have hI1 : ((cap : Int) - (q : Int)) = (r : Int) := by omega
    have hI2 : ((n : Int) - (q : Int)) = (r2 : Int) := by omega
    by_cases hcq : cap = q
    · obtain rfl : n = cap := by omega
      subst hcq
      obtain rfl : r = 0 := by omega
      obtain rfl : r2 = 0 := by omega
      rw [if_pos rfl] at ht
      clear hI1 hI2 hr hr2
      have HEND := hideIt (cat2 w1 _ _ _ _ HF.out ht (by simp [HN.out]; omega))
      clear hcells hb1 ht
      go_region_held3 (fun _ => True) (trivial) (first | (go_at_call 29; refine HEND.out.mono ?_; rintro e w2 ⟨v2, rfl, ho2, hb2⟩))
      go_wp2
      go_ret2
      refine (HT.out _ _).2 ⟨v2, by rw [← HFQ.out]; rfl, ?_, below2 HB1.out hb2⟩
      rw [HWL.out]
      exact own_mono ho2 HB1.out.size
    · rw [if_neg hcq] at ht
      have HEND := hideIt (cat2 w1 _ _ _ _ HF.out ht (by simp [HN.out]; omega))
      clear hcells hb1 ht
      go_region_held3 (fun _ => True) (trivial) (first | (go_at_call 29; refine HEND.out.mono ?_; rintro e w2 ⟨v2, rfl, ho2, hb2⟩))
      go_wp2
      go_ret2
      refine (HT.out _ _).2 ⟨v2, by rw [← HFQ.out]; rfl, ?_, below2 HB1.out hb2⟩
      rw [HWL.out]
      exact own_mono ho2 HB1.out.size
end Go.Proofs.Ytfpnepjdcgghgaa
