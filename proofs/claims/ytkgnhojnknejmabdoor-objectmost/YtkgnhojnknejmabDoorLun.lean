/- The laws ObjectUnlike and ObjectMost, walked. -/
import Derived.Test.YtkgnhojnknejmabDoorOo
import Derived.Deep.RegionHeld3
import Derived.BigQuiet
namespace Go.Proofs.YtkgnhojnknejmabDoor
namespace Ob
open Go.RowKit Go.Shelf
theorem flipC {P : Program} {f : Nat} {a : Array Value} {w : World} {v : Value} (h : Calls P f a w fun e w' => e = .returned v ∧ w' = w) : Calls P f a w fun e w' => e = .returned v ∧ w = w' := h.mono fun _ _ h => ⟨h.1, h.2.symm⟩
theorem beq_same (s : ByteArray) : (s.toList == s.toList) = true := by simp
theorem i64_and3 (n : Int) : bits .and .i64 n 3 = n % 4 := by
  have h3 : (BitVec.ofInt 64 3).toNat = 2 ^ 2 - 1 := by decide
  have key : (BitVec.ofInt 64 n &&& BitVec.ofInt 64 3).toNat = (n % ((2 ^ 64 : Nat) : Int)).toNat % 2 ^ 2 := by
    rw [BitVec.toNat_and, BitVec.toNat_ofInt, h3, Nat.and_two_pow_sub_one_eq_mod]
  show IntKind.i64.wrap ((BitVec.ofInt 64 n &&& BitVec.ofInt 64 3).toNat : Nat) = n % 4
  rw [key, IntKind.wrap_i64]
  omega
theorem tw_keep {N : Nat} {a b : ByteArray} {w0 w w1 : World} (hb : Below w.heap.size w w1)
    (h : w.cell? ⟨N, 0, none⟩ = some (.string a) ∧ w.cell? ⟨N, 1, none⟩ = some (.string b) ∧ Ok w ∧ Below N w0 w ∧ N < w.heap.size) :
    w1.cell? ⟨N, 0, none⟩ = some (.string a) ∧ w1.cell? ⟨N, 1, none⟩ = some (.string b) ∧ Ok w1 ∧ Below N w0 w1 ∧ N < w1.heap.size :=
  ⟨by rw [hb.cell (p := ⟨N, 0, none⟩) h.2.2.2.2]; exact h.1, by rw [hb.cell (p := ⟨N, 1, none⟩) h.2.2.2.2]; exact h.2.1, h.2.2.1.below hb, h.2.2.2.1.trans (hb.mono (Nat.le_of_lt h.2.2.2.2)), Nat.lt_of_lt_of_le h.2.2.2.2 hb.size⟩
set_option maxHeartbeats 1000000 in
set_option maxRecDepth 100000 in
theorem twin_ne (a b : ByteArray) (w : World) (ha : a.size ≤ 1000000) (hb : b.size ≤ 1000000) (hK : Ok w) (hn : (a.toList == b.toList) = false) :
    Calls Tryd.prog 9 #[.agg #[.string a, .string b]] w fun e w' => e = .returned (.bool ((Sa.Sha.sha a.data.toList).toList == (Sa.Sha.sha b.data.toList).toList)) ∧ Below w.heap.size w w' := by
  have HK := hideIt hK
  clear hK
  have HS : Hid ((w.alloc (.cells #[.string a, .string b] 30)).drew.cell? ⟨w.heap.size, 0, none⟩ = some (.string a) ∧ (w.alloc (.cells #[.string a, .string b] 30)).drew.cell? ⟨w.heap.size, 1, none⟩ = some (.string b) ∧ Ok (w.alloc (.cells #[.string a, .string b] 30)).drew ∧ Below w.heap.size w (w.alloc (.cells #[.string a, .string b] 30)).drew ∧ w.heap.size < (w.alloc (.cells #[.string a, .string b] 30)).drew.heap.size) := by
    have hbw : Below w.heap.size w (w.alloc (.cells #[.string a, .string b] 30)).drew := ((Below.refl _ _).alloc (Nat.le_refl _) _).drew
    exact ⟨by simp, by simp, HK.out.below hbw, hbw, by rw [heap_drew]; simp⟩
  go_enter Tryd.func9, Tryd.ntmps9
  go_wp2
  go_region_held3 (fun w' => w'.cell? ⟨w.heap.size, 0, none⟩ = some (.string a) ∧ w'.cell? ⟨w.heap.size, 1, none⟩ = some (.string b) ∧ Ok w' ∧ Below w.heap.size w w' ∧ w.heap.size < w'.heap.size) (first | (exact HS.out) | (exact tw_keep hb1 (by assumption)))
    (first | (go_at_call_of 14 (Value.string a); refine (Sa.of_any a _ ?_ (by omega)).mono ?_; exact (‹_ ∧ _ ∧ Ok _ ∧ _ ∧ _›).2.2.1.kat; rintro e w1 ⟨rfl, hb1⟩) | (go_at_call_of 14 (Value.string b); refine (Sa.of_any b _ ?_ (by omega)).mono ?_; exact (‹_ ∧ _ ∧ Ok _ ∧ _ ∧ _›).2.2.1.kat; rintro e w1 ⟨rfl, hb1⟩))
  all_goals
    go_wp2
    go_ret
    exact ⟨rfl, (‹_ ∧ _ ∧ Ok _ ∧ _ ∧ _›).2.2.2.1⟩
theorem ne_list {a b : ByteArray} (h : a ≠ b) : (a.toList == b.toList) = false := by
  rw [ByteArray.toList_eq, ByteArray.toList_eq]
  have : a.data.toList ≠ b.data.toList := fun e => h (by rw [← bs_data a, e, bs_data])
  simpa using this
theorem eq_list {a b : ByteArray} (h : (a.toList == b.toList) = true) : a = b := by
  rw [ByteArray.toList_eq, ByteArray.toList_eq] at h
  have h2 : a.data.toList = b.data.toList := by simpa using h
  rw [← bs_data a, h2, bs_data]
set_option maxHeartbeats 1600000 in
set_option maxRecDepth 100000 in
theorem unlike_law (a b : ByteArray) (x y : Int) (w : World) (hk : Ok w) (ha : a.size ≤ maxLen) (hb : b.size ≤ maxLen) :
    Calls Tryd.prog 3 #[.string a, .string b, .agg #[.int .i64 x, .int .i64 y]] w fun e w' => e = .returned (.bool true) ∧ Below w.heap.size w w' := by
  have HOK := hideIt hk
  have hf := fewS_size a
  have hg := fewS_size b
  have HF := hideIt (fun w => flipC (few_any a w ha))
  have HG := hideIt (fun w => flipC (few_any b w hb))
  obtain ⟨f, hfe⟩ : ∃ f, fewS a = f := ⟨_, rfl⟩
  obtain ⟨g, hge⟩ : ∃ g, fewS b = g := ⟨_, rfl⟩
  rw [hfe] at HF hf
  rw [hge] at HG hg
  obtain ⟨i, hi, hi4⟩ : ∃ i : Nat, x % 4 = (i : Int) ∧ i < 4 := ⟨(x % 4).toNat, by omega, by omega⟩
  obtain ⟨j, hj, hj4⟩ : ∃ j : Nat, y % 4 = (j : Int) ∧ j < 4 := ⟨(y % 4).toNat, by omega, by omega⟩
  have b1 := i64_and3 x
  have b2 := i64_and3 y
  rw [hi] at b1
  rw [hj] at b2
  obtain ⟨k, hkk⟩ : ∃ k, 1 + i = k := ⟨_, rfl⟩
  obtain ⟨l, hll⟩ : ∃ l, 1 + j = l := ⟨_, rfl⟩
  have k1 : 1 + (i : Int) = (k : Int) := by omega
  have l1 : 1 + (j : Int) = (l : Int) := by omega
  have hkr : 1 ≤ (k : Int) ∧ (k : Int) ≤ 4 := by omega
  have hlr : 1 ≤ (l : Int) ∧ (l : Int) ≤ 4 := by omega
  have fl : f.data.toList.length = f.size := str_len f
  have gl : g.data.toList.length = g.size := str_len g
  have HR := hideIt (fun w h => raw_any (k : Int) f w (by omega) h)
  have HT := hideIt (fun w h => raw_any (l : Int) g w (by omega) h)
  rw [rawR, if_pos hkr, if_neg (by omega)] at HR
  rw [rawR, if_pos hlr, if_neg (by omega)] at HT
  simp only at HR HT
  have HA := hideIt awake_any
  have hrl := raw_len (k : Int) f.data.toList (by omega)
  have htl := raw_len (l : Int) g.data.toList (by omega)
  have sS : (bs (rawL (k : Int) f.data.toList)).size ≤ 6000 := by rw [bs_size]; omega
  have sT : (bs (rawL (l : Int) g.data.toList)).size ≤ 6000 := by rw [bs_size]; omega
  have HN : Hid (bs (rawL (k : Int) f.data.toList) = bs (rawL (l : Int) g.data.toList) → (k : Int) = (l : Int) ∧ f = g) := hideIt (fun e => by
    obtain ⟨e1, e2⟩ := raw_inj hkr hlr (by omega) (by omega) (bs_inj e)
    exact ⟨e1, by rw [← bs_data f, e2, bs_data]⟩)
  have HY : Hid (k = l → f = g → bs (rawL (k : Int) f.data.toList) = bs (rawL (l : Int) g.data.toList)) := hideIt (fun e1 e2 => by rw [e1, e2])
  obtain ⟨S, hS⟩ : ∃ S, bs (rawL (k : Int) f.data.toList) = S := ⟨_, rfl⟩
  obtain ⟨T, hT⟩ : ∃ T, bs (rawL (l : Int) g.data.toList) = T := ⟨_, rfl⟩
  rw [hS] at HR sS HN HY
  rw [hT] at HT sT HN HY
  have HI := hideIt (fun w h => id_any S w (by omega) h)
  have HJ := hideIt (fun w h => id_any T w (by omega) h)
  have HTW := hideIt (fun w h e => twin_ne S T w (by omega) (by omega) h e)
  obtain ⟨I, hI⟩ : ∃ I, Sa.Sha.sha S.data.toList = I := ⟨_, rfl⟩
  obtain ⟨J, hJ⟩ : ∃ J, Sa.Sha.sha T.data.toList = J := ⟨_, rfl⟩
  rw [hI] at HI HTW
  rw [hJ] at HJ HTW
  have HIJ : Hid (S = T → I = J) := hideIt (fun e => by rw [← hI, ← hJ, e])
  clear hfe hge hi hj hkk hll hrl htl hS hT hI hJ fl gl hk ha hb
  by_cases hkl : k = l
  · subst hkl
    have m1 : ((k : Int) == (k : Int)) = true := by simp
    by_cases hfg : f = g
    · have hST := HY.out rfl hfg
      have hIJ := HIJ.out hST
      subst hST hIJ hfg
      have e1 := beq_same S
      have e2 := beq_same I
      have e3 := beq_same f
      clear HN HY HIJ HTW
      go_enter Tryd.func3, Tryd.ntmps3
      go_wp2
      go_quiet (fail)
      obtain ⟨W0, hW0⟩ : ∃ W0, (w.alloc (.cells #[.int .i64 x, .int .i64 y] 22)).drewN nq = W0 := ⟨_, rfl⟩
      have HB0 : Hid (Below w.heap.size w W0) := hideIt (by rw [← hW0]; exact below2 ((Below.refl _ _).alloc (Nat.le_refl _) _) (below_drewN _ _))
      rw [hW0]
      clear hW0
      go_wp2_with (first
        | (go_at_call_of 6 (Value.string a); refine (HF.out _).mono ?_; rintro e wf ⟨rfl, rfl⟩)
        | (go_at_call_of 6 (Value.string b); refine (HG.out _).mono ?_; rintro e wf ⟨rfl, rfl⟩)
        | (go_at_call 5; refine (HT.out _ (HOK.out.below HB1.out)).mono ?_; rintro e w2 ⟨rfl, hb2⟩; have HB2 := hideIt (below2 HB1.out hb2))
        | (go_at_call 5; refine (HR.out _ (HOK.out.below HB0.out)).mono ?_; rintro e w1 ⟨rfl, hb1⟩; have HB1 := hideIt (below2 HB0.out hb1))
        | (go_at_call 7; refine (HA.out _ (HOK.out.below HB2.out)).mono ?_; rintro e w3 ⟨rfl, hb3⟩; have HB3 := hideIt (below2 HB2.out hb3))
        | (go_at_call 8; refine (HJ.out _ (HOK.out.below HB4.out)).mono ?_; rintro e w5 ⟨rfl, hb5⟩; have HB5 := hideIt (below2 HB4.out hb5))
        | (go_at_call 8; refine (HI.out _ (HOK.out.below HB3.out)).mono ?_; rintro e w4 ⟨rfl, hb4⟩; have HB4 := hideIt (below2 HB3.out hb4)))
      go_ret
      exact ⟨rfl, HB5.out⟩
    · have hST : S ≠ T := fun e => hfg (HN.out e).2
      have e1 := ne_list hST
      have e3 := ne_list hfg
      have HE1 := hideIt e1
      clear HN HY HIJ
      by_cases hij : (I.toList == J.toList) = true
      · rw [hij] at HTW
        go_enter Tryd.func3, Tryd.ntmps3
        go_wp2
        go_quiet (fail)
        obtain ⟨W0, hW0⟩ : ∃ W0, (w.alloc (.cells #[.int .i64 x, .int .i64 y] 22)).drewN nq = W0 := ⟨_, rfl⟩
        have HB0 : Hid (Below w.heap.size w W0) := hideIt (by rw [← hW0]; exact below2 ((Below.refl _ _).alloc (Nat.le_refl _) _) (below_drewN _ _))
        rw [hW0]
        clear hW0
        go_wp2_with (first
          | (go_at_call_of 6 (Value.string a); refine (HF.out _).mono ?_; rintro e wf ⟨rfl, rfl⟩)
          | (go_at_call_of 6 (Value.string b); refine (HG.out _).mono ?_; rintro e wf ⟨rfl, rfl⟩)
          | (go_at_call_of 5 (Value.string f); refine (HR.out _ (HOK.out.below HB0.out)).mono ?_; rintro e w1 ⟨rfl, hb1⟩; have HB1 := hideIt (below2 HB0.out hb1))
          | (go_at_call_of 5 (Value.string g); refine (HT.out _ (HOK.out.below HB1.out)).mono ?_; rintro e w2 ⟨rfl, hb2⟩; have HB2 := hideIt (below2 HB1.out hb2))
          | (go_at_call 7; refine (HA.out _ (HOK.out.below HB2.out)).mono ?_; rintro e w3 ⟨rfl, hb3⟩; have HB3 := hideIt (below2 HB2.out hb3))
          | (go_at_call_of 8 (Value.string T); refine (HJ.out _ (HOK.out.below HB4.out)).mono ?_; rintro e w5 ⟨rfl, hb5⟩; have HB5 := hideIt (below2 HB4.out hb5))
          | (go_at_call_of 8 (Value.string S); refine (HI.out _ (HOK.out.below HB3.out)).mono ?_; rintro e w4 ⟨rfl, hb4⟩; have HB4 := hideIt (below2 HB3.out hb4))
          | (go_at_call 9; refine (HTW.out _ (HOK.out.below HB5.out) HE1.out).mono ?_; rintro e w6 ⟨rfl, hb6⟩; have HB6 := hideIt (below2 HB5.out hb6)))
        go_ret
        exact ⟨rfl, HB6.out⟩
      · have hij : (I.toList == J.toList) = false := by simpa using hij
        clear HTW
        go_enter Tryd.func3, Tryd.ntmps3
        go_wp2
        go_quiet (fail)
        obtain ⟨W0, hW0⟩ : ∃ W0, (w.alloc (.cells #[.int .i64 x, .int .i64 y] 22)).drewN nq = W0 := ⟨_, rfl⟩
        have HB0 : Hid (Below w.heap.size w W0) := hideIt (by rw [← hW0]; exact below2 ((Below.refl _ _).alloc (Nat.le_refl _) _) (below_drewN _ _))
        rw [hW0]
        clear hW0
        go_wp2_with (first
          | (go_at_call_of 6 (Value.string a); refine (HF.out _).mono ?_; rintro e wf ⟨rfl, rfl⟩)
          | (go_at_call_of 6 (Value.string b); refine (HG.out _).mono ?_; rintro e wf ⟨rfl, rfl⟩)
          | (go_at_call_of 5 (Value.string f); refine (HR.out _ (HOK.out.below HB0.out)).mono ?_; rintro e w1 ⟨rfl, hb1⟩; have HB1 := hideIt (below2 HB0.out hb1))
          | (go_at_call_of 5 (Value.string g); refine (HT.out _ (HOK.out.below HB1.out)).mono ?_; rintro e w2 ⟨rfl, hb2⟩; have HB2 := hideIt (below2 HB1.out hb2))
          | (go_at_call 7; refine (HA.out _ (HOK.out.below HB2.out)).mono ?_; rintro e w3 ⟨rfl, hb3⟩; have HB3 := hideIt (below2 HB2.out hb3))
          | (go_at_call_of 8 (Value.string T); refine (HJ.out _ (HOK.out.below HB4.out)).mono ?_; rintro e w5 ⟨rfl, hb5⟩; have HB5 := hideIt (below2 HB4.out hb5))
          | (go_at_call_of 8 (Value.string S); refine (HI.out _ (HOK.out.below HB3.out)).mono ?_; rintro e w4 ⟨rfl, hb4⟩; have HB4 := hideIt (below2 HB3.out hb4)))
        go_ret
        exact ⟨rfl, HB5.out⟩
  · have m1 : ((k : Int) == (l : Int)) = false := by
      have : (k : Int) ≠ (l : Int) := by omega
      simpa using this
    have hST : S ≠ T := fun e => hkl (by have := (HN.out e).1; omega)
    have e1 := ne_list hST
    have HE1 := hideIt e1
    clear HN HY HIJ
    by_cases hij : (I.toList == J.toList) = true
    · rw [hij] at HTW
      go_enter Tryd.func3, Tryd.ntmps3
      go_wp2
      go_quiet (fail)
      obtain ⟨W0, hW0⟩ : ∃ W0, (w.alloc (.cells #[.int .i64 x, .int .i64 y] 22)).drewN nq = W0 := ⟨_, rfl⟩
      have HB0 : Hid (Below w.heap.size w W0) := hideIt (by rw [← hW0]; exact below2 ((Below.refl _ _).alloc (Nat.le_refl _) _) (below_drewN _ _))
      rw [hW0]
      clear hW0
      go_wp2_with (first
        | (go_at_call_of 6 (Value.string a); refine (HF.out _).mono ?_; rintro e wf ⟨rfl, rfl⟩)
        | (go_at_call_of 6 (Value.string b); refine (HG.out _).mono ?_; rintro e wf ⟨rfl, rfl⟩)
        | (go_at_call_of 5 (Value.string f); refine (HR.out _ (HOK.out.below HB0.out)).mono ?_; rintro e w1 ⟨rfl, hb1⟩; have HB1 := hideIt (below2 HB0.out hb1))
        | (go_at_call_of 5 (Value.string g); refine (HT.out _ (HOK.out.below HB1.out)).mono ?_; rintro e w2 ⟨rfl, hb2⟩; have HB2 := hideIt (below2 HB1.out hb2))
        | (go_at_call 7; refine (HA.out _ (HOK.out.below HB2.out)).mono ?_; rintro e w3 ⟨rfl, hb3⟩; have HB3 := hideIt (below2 HB2.out hb3))
        | (go_at_call_of 8 (Value.string T); refine (HJ.out _ (HOK.out.below HB4.out)).mono ?_; rintro e w5 ⟨rfl, hb5⟩; have HB5 := hideIt (below2 HB4.out hb5))
        | (go_at_call_of 8 (Value.string S); refine (HI.out _ (HOK.out.below HB3.out)).mono ?_; rintro e w4 ⟨rfl, hb4⟩; have HB4 := hideIt (below2 HB3.out hb4))
        | (go_at_call 9; refine (HTW.out _ (HOK.out.below HB5.out) HE1.out).mono ?_; rintro e w6 ⟨rfl, hb6⟩; have HB6 := hideIt (below2 HB5.out hb6)))
      go_ret
      exact ⟨rfl, HB6.out⟩
    · have hij : (I.toList == J.toList) = false := by simpa using hij
      clear HTW
      go_enter Tryd.func3, Tryd.ntmps3
      go_wp2
      go_quiet (fail)
      obtain ⟨W0, hW0⟩ : ∃ W0, (w.alloc (.cells #[.int .i64 x, .int .i64 y] 22)).drewN nq = W0 := ⟨_, rfl⟩
      have HB0 : Hid (Below w.heap.size w W0) := hideIt (by rw [← hW0]; exact below2 ((Below.refl _ _).alloc (Nat.le_refl _) _) (below_drewN _ _))
      rw [hW0]
      clear hW0
      go_wp2_with (first
        | (go_at_call_of 6 (Value.string a); refine (HF.out _).mono ?_; rintro e wf ⟨rfl, rfl⟩)
        | (go_at_call_of 6 (Value.string b); refine (HG.out _).mono ?_; rintro e wf ⟨rfl, rfl⟩)
        | (go_at_call_of 5 (Value.string f); refine (HR.out _ (HOK.out.below HB0.out)).mono ?_; rintro e w1 ⟨rfl, hb1⟩; have HB1 := hideIt (below2 HB0.out hb1))
        | (go_at_call_of 5 (Value.string g); refine (HT.out _ (HOK.out.below HB1.out)).mono ?_; rintro e w2 ⟨rfl, hb2⟩; have HB2 := hideIt (below2 HB1.out hb2))
        | (go_at_call 7; refine (HA.out _ (HOK.out.below HB2.out)).mono ?_; rintro e w3 ⟨rfl, hb3⟩; have HB3 := hideIt (below2 HB2.out hb3))
        | (go_at_call_of 8 (Value.string T); refine (HJ.out _ (HOK.out.below HB4.out)).mono ?_; rintro e w5 ⟨rfl, hb5⟩; have HB5 := hideIt (below2 HB4.out hb5))
        | (go_at_call_of 8 (Value.string S); refine (HI.out _ (HOK.out.below HB3.out)).mono ?_; rintro e w4 ⟨rfl, hb4⟩; have HB4 := hideIt (below2 HB3.out hb4)))
      go_ret
      exact ⟨rfl, HB5.out⟩
set_option maxHeartbeats 800000 in
set_option maxRecDepth 100000 in
theorem most_law (n : Int) (w : World) (hk : Ok w) :
    Calls Tryd.prog 4 #[.int .i64 n] w fun e w' => e = .returned (.bool true) ∧ Below w.heap.size w w' := by
  have HOK := hideIt hk
  obtain ⟨j, hj, hj4⟩ : ∃ j : Nat, n % 4 = (j : Int) ∧ j < 4 := ⟨(n % 4).toNat, by omega, by omega⟩
  have b1 := i64_and3 n
  rw [hj] at b1
  obtain ⟨k, hkk⟩ : ∃ k, 262142 + j = k := ⟨_, rfl⟩
  have k1 : 262142 + (j : Int) = (k : Int) := by omega
  have hmk := Cb.run_make_bytes .i64 k (by omega) w
  have hcv : (convert 32 9 (.slice (some ⟨w.heap.size, 0, none⟩) k k)).run Tryd.prog (w.alloc (.cells (Cb.rowA (List.replicate k 0)) 5)) = .ok (.string (bs (List.replicate k 0))) (w.alloc (.cells (Cb.rowA (List.replicate k 0)) 5)) := by
    have := Cb.run_row (List.replicate k 0) (w.alloc (.cells (Cb.rowA (List.replicate k 0)) 5)) w.heap.size 5 (Cb.alloc_at rfl) k
    rw [List.length_replicate] at this
    exact this
  have HB0 := hideIt ((Below.refl w.heap.size w).alloc (Nat.le_refl _) (.cells (Cb.rowA (List.replicate k 0)) 5))
  obtain ⟨S, hS⟩ : ∃ S : List UInt8, List.replicate k 0 = S := ⟨_, rfl⟩
  have hSl : S.length = k := by rw [← hS, List.length_replicate]
  have hsz : (bs S).size ≤ 1000000 := by rw [bs_size]; omega
  rw [hS] at hmk hcv HB0
  have HR := hideIt (fun w h => raw_any 1 (bs S) w hsz h)
  have HQ := hideIt (fun w => refraw_any 1 (by omega) (bs S) w hsz)
  rw [bs_list] at HR HQ
  have hrl := raw_len 1 S (by omega)
  have HO := hideIt (fun w h => open_any (rawL 1 S) (by omega) w h)
  rw [opn_raw 1 (by omega) S (by omega)] at HO
  rw [rawR, if_pos (by omega)] at HR
  have HA := hideIt awake_any
  obtain ⟨B, hB⟩ : ∃ B, bs S = B := ⟨_, rfl⟩
  obtain ⟨Q, hQ⟩ : ∃ Q, bs (rawL 1 S) = Q := ⟨_, rfl⟩
  rw [hB] at HR HQ hcv
  rw [hQ] at HQ HO
  have eq := beq_same Q
  clear hS hsz hrl hk hj hB
  by_cases h : 262144 < k
  · have i1 : (262144 : Int) < (k : Int) := by omega
    rw [if_pos (by omega)] at HR HO
    have HR2 : Hid (∀ w, Ok w → Calls Tryd.prog 5 #[.int .i64 1, .string B] w fun e w' => e = .returned (.tuple #[.string ⟨#[]⟩, .int .i64 3]) ∧ Below w.heap.size w w') := HR
    have HO2 : Hid (∀ w, Ok w → Calls Tryd.prog 10 #[.string Q] w fun e w' => e = .returned (.tuple #[.int .i64 0, .string ⟨#[]⟩, .int .i64 3]) ∧ Below w.heap.size w w') := HO
    clear HR HO hQ
    go_enter Tryd.func4, Tryd.ntmps4
    go_wp2_with (first
      | (go_at_call 5; refine (HR2.out _ (HOK.out.below HB0.out)).mono ?_; rintro e w1 ⟨rfl, hb1⟩; have HB1 := hideIt (below2 HB0.out hb1))
      | (go_at_call 11; refine (HQ.out _).mono ?_; rintro e w2 ⟨rfl, hb2⟩; have HB2 := hideIt (below2 HB1.out hb2))
      | (go_at_call 10; refine (HO2.out _ (HOK.out.below HB2.out)).mono ?_; rintro e w3 ⟨rfl, hb3⟩; have HB3 := hideIt (below2 HB2.out hb3))
      | (go_at_call 7; refine (HA.out _ (HOK.out.below HB3.out)).mono ?_; rintro e w4 ⟨rfl, hb4⟩; have HB4 := hideIt (below2 HB3.out hb4)))
    go_ret
    exact ⟨rfl, HB4.out⟩
  · have i1 : ¬ (262144 : Int) < (k : Int) := by omega
    rw [if_neg (by omega)] at HR HO
    simp only at HR HO
    rw [hQ] at HR
    rw [opV] at HO
    simp only at HO
    obtain ⟨C, hC⟩ : ∃ C, bs S = C := ⟨_, rfl⟩
    rw [hC] at HO
    clear hQ hC
    go_enter Tryd.func4, Tryd.ntmps4
    go_wp2_with (first
      | (go_at_call 5; refine (HR.out _ (HOK.out.below HB0.out)).mono ?_; rintro e w1 ⟨rfl, hb1⟩; have HB1 := hideIt (below2 HB0.out hb1))
      | (go_at_call 10; refine (HO.out _ (HOK.out.below HB2.out)).mono ?_; rintro e w3 ⟨rfl, hb3⟩; have HB3 := hideIt (below2 HB2.out hb3))
      | (go_at_call 7; refine (HA.out _ (HOK.out.below HB3.out)).mono ?_; rintro e w4 ⟨rfl, hb4⟩; have HB4 := hideIt (below2 HB3.out hb4))
      | (go_at_call 11; refine (HQ.out _).mono ?_; rintro e w5 ⟨rfl, hb5⟩; have HB5 := hideIt (below2 HB4.out hb5))
      | (go_at_call 11; refine (HQ.out _).mono ?_; rintro e w2 ⟨rfl, hb2⟩; have HB2 := hideIt (below2 HB1.out hb2)))
    go_ret
    exact ⟨rfl, HB5.out⟩
end Ob
end Go.Proofs.YtkgnhojnknejmabDoor
