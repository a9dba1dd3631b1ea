/- Trees: where an entry of a name stands, walked. -/
import Derived.Test.YtfpnepjdcgghgaaTf
namespace Go.Proofs.Ytfpnepjdcgghgaa
open Go.RowKit Go.Shelf
theorem bl_irrefl : ∀ x : List UInt8, Op.bytesLess x x = false
  | [] => rfl
  | a :: x => by simp [Op.bytesLess, bl_irrefl x]
theorem bl_trans : ∀ x y z : List UInt8, Op.bytesLess x y = true → Op.bytesLess y z = true → Op.bytesLess x z = true
  | _, _, [], _, h => by simp [Op.bytesLess] at h
  | _, [], _ :: _, h, _ => by simp [Op.bytesLess] at h
  | [], _ :: _, _ :: _, _, _ => rfl
  | a :: x, b :: y, c :: z, h1, h2 => by
    simp only [Op.bytesLess, Bool.or_eq_true, decide_eq_true_eq, Bool.and_eq_true, beq_iff_eq] at h1 h2 ⊢
    rcases h1 with h1 | ⟨rfl, h1⟩
    · rcases h2 with h2 | ⟨rfl, h2⟩
      · exact .inl (UInt8.lt_trans h1 h2)
      · exact .inl h1
    · rcases h2 with h2 | ⟨rfl, h2⟩
      · exact .inl h2
      · exact .inr ⟨rfl, bl_trans x y z h1 h2⟩
theorem bl_total : ∀ x y : List UInt8, Op.bytesLess x y = false → Op.bytesLess y x = false → x = y
  | [], [], _, _ => rfl
  | [], _ :: _, h, _ => by simp [Op.bytesLess] at h
  | _ :: _, [], _, h => by simp [Op.bytesLess] at h
  | a :: x, b :: y, h1, h2 => by
    simp only [Op.bytesLess, Bool.or_eq_false_iff, decide_eq_false_iff_not, Bool.and_eq_false_iff, beq_eq_false_iff_ne, ne_eq] at h1 h2
    have hab : a = b := by
      apply UInt8.toNat_inj.1
      have h3 := h1.1
      have h4 := h2.1
      rw [UInt8.lt_iff_toNat_lt] at h3 h4
      omega
    subst hab
    rw [bl_total x y (by rcases h1.2 with h | h; exact absurd rfl h; exact h) (by rcases h2.2 with h | h; exact absurd rfl h; exact h)]
theorem cmp_bl : ∀ x y : List UInt8, Lib.compareBytes x y = if Op.bytesLess x y = true then -1 else if x = y then 0 else 1
  | [], [] => rfl
  | [], _ :: _ => rfl
  | _ :: _, [] => by simp [Lib.compareBytes, Op.bytesLess]
  | a :: x, b :: y => by
    rw [Lib.compareBytes, cmp_bl x y]
    simp only [Op.bytesLess, Bool.or_eq_true, decide_eq_true_eq, Bool.and_eq_true, beq_iff_eq, List.cons.injEq]
    by_cases h : a < b
    · simp [h]
    · by_cases h2 : b < a
      · have : a ≠ b := fun e => by subst e; exact h h2
        simp [h, h2, this]
      · have : a = b := by
          apply UInt8.toNat_inj.1
          rw [UInt8.lt_iff_toNat_lt] at h h2
          omega
        simp [this, UInt8.lt_irrefl]
theorem less_trans {a b c : ByteArray} (h1 : less a b = true) (h2 : less b c = true) : less a c = true := bl_trans _ _ _ h1 h2
theorem less_irrefl (a : ByteArray) : less a a = false := bl_irrefl _
theorem bytes_ext {a b : ByteArray} (h : a.data.toList = b.data.toList) : a = b := ByteArray.ext (Array.toList_inj.1 h)
theorem less_total {a b : ByteArray} (h1 : less a b = false) (h2 : less b a = false) : a = b := by
  apply bytes_ext
  have := bl_total _ _ h1 h2
  rwa [ByteArray.toList_eq, ByteArray.toList_eq] at this
theorem less_asymm {a b : ByteArray} (h : less a b = true) : less b a = false := by
  cases h2 : less b a with
  | false => rfl
  | true => have := less_trans h h2; rw [less_irrefl] at this; cases this
/-- Names that rise. -/
def Up (l : List En) : Prop := l.Pairwise (fun x y => less x.nm y.nm = true)
def pos (l : List En) (t : ByteArray) : Nat := l.countP (fun x => less x.nm t)
def found (l : List En) (t : ByteArray) : Bool := match l[pos l t]? with
  | some x => decide (x.nm = t)
  | none => false
theorem countP_at (p : En → Bool) : ∀ (l : List En) (i : Nat), i ≤ l.length → (∀ t x, t < i → l[t]? = some x → p x = true) → (∀ t x, i ≤ t → l[t]? = some x → p x = false) → l.countP p = i
  | [], i, hi, _, _ => by simp at hi; simp [hi]
  | a :: r, 0, _, _, h2 => by
    rw [List.countP_eq_zero]
    intro x hx
    obtain ⟨t, ht⟩ := List.mem_iff_getElem?.1 hx
    simp [h2 t x (Nat.zero_le _) ht]
  | a :: r, i + 1, hi, h1, h2 => by
    have ha : p a = true := h1 0 a (Nat.succ_pos _) rfl
    rw [List.countP_cons_of_pos ha, countP_at p r i (by simpa using hi) (fun t x ht hx => h1 (t + 1) x (by omega) (by simpa using hx)) (fun t x ht hx => h2 (t + 1) x (by omega) (by simpa using hx))]
theorem Up.at {l : List En} (h : Up l) {i j : Nat} {x y : En} (hij : i < j) (hx : l[i]? = some x) (hy : l[j]? = some y) : less x.nm y.nm = true := by
  obtain ⟨h1, rfl⟩ := List.getElem?_eq_some_iff.1 hx
  obtain ⟨h2, rfl⟩ := List.getElem?_eq_some_iff.1 hy
  exact List.pairwise_iff_getElem.1 h i j h1 h2 hij
set_option maxHeartbeats 800000 in
set_option maxRecDepth 100000 in
theorem against_any (x : En) (t : ByteArray) (w : World) : Calls Try.prog 37 #[.agg #[.string x.nm, .int .i64 x.md, .string x.ids], .string t] w fun e w' => e = .returned (.int .i64 (Lib.compareBytes x.nm.data.toList t.data.toList)) ∧ Below w.heap.size w w' := by
  have HC := hideIt (Try.strings_Compare x.nm t)
  obtain ⟨W, hW⟩ : ∃ W, w.alloc (.cells #[.string x.nm, .int .i64 x.md, .string x.ids] 36) = W := ⟨_, rfl⟩
  have hbW : Below w.heap.size w W := by rw [← hW]; exact (Below.refl _ _).alloc (Nat.le_refl _) _
  have c0 : W.cell? ⟨w.heap.size, 0, none⟩ = some (.string x.nm) := cellAt (by rw [← hW]; exact alloc_at rfl) rfl
  have HB := hideIt hbW
  clear hbW
  go_enter Try.func37, Try.ntmps37
  go_wp2_with (first | (go_at_call 43; refine (HC.out _).mono ?_; rintro e w1 ⟨rfl, hw1⟩; obtain rfl := hw1.symm))
  go_ret
  exact ⟨rfl, HB.out⟩
theorem cmp_lt (x t : ByteArray) : (Lib.compareBytes x.data.toList t.data.toList < 0 ↔ less x t = true) ∧ (Lib.compareBytes x.data.toList t.data.toList = 0 ↔ x = t) := by
  rw [cmp_bl, ← ByteArray.toList_eq, ← ByteArray.toList_eq]
  have e : x.toList = t.toList → x = t := fun h => bytes_ext (by rwa [ByteArray.toList_eq, ByteArray.toList_eq] at h)
  unfold less
  by_cases h1 : Op.bytesLess x.toList t.toList = true
  · have hne : ¬ x = t := fun h => by rw [h, bl_irrefl] at h1; cases h1
    simp [h1, hne]
  · by_cases h2 : x = t
    · simp [h2, bl_irrefl]
    · have h3 : ¬ x.toList = t.toList := fun h => h2 (e h)
      simp [h1, h2, h3]
set_option maxHeartbeats 1600000 in
set_option maxRecDepth 100000 in
theorem search_any (v : Value) (l : List En) (t : ByteArray) (w : World) (h : ERow w v l) (hn : l.length ≤ 1000000) (hu : Up l) :
    Calls Try.prog 36 #[v, .string t, .func (.func 37) #[] #[]] w fun e w' => e = .returned (.tuple #[.int .i64 (pos l t : Nat), .bool (found l t)]) ∧ Below w.heap.size w w' := by
  obtain ⟨a, c, rfl, hlc, hcm, hrow⟩ := h
  have HR := hideIt hrow
  have HA := hideIt (against_any)
  have HU := hideIt hu
  have HC := hideIt (cmp_lt)
  obtain ⟨p, hp⟩ : ∃ p, pos l t = p := ⟨_, rfl⟩
  obtain ⟨f, hf⟩ : ∃ f, found l t = f := ⟨_, rfl⟩
  rw [hp, hf]
  have HP := hideIt hp
  have HF := hideIt hf
  obtain ⟨n, hnn⟩ : ∃ n, l.length = n := ⟨_, rfl⟩
  rw [hnn] at hlc hn ⊢
  have HN := hideIt hnn
  clear hnn hrow hu hp hf
  go_enter Try.func36, Try.ntmps36
  go_wp2
  go_loopw [9, 10] (fun s9 s10 wr => ∃ lo hi : Nat, s9 = .int .i64 lo ∧ s10 = .int .i64 hi ∧ lo ≤ hi ∧ hi ≤ n ∧ Below w.heap.size w wr ∧ (∀ i x, i < lo → l[i]? = some x → less x.nm t = true) ∧ (∀ i x, hi ≤ i → l[i]? = some x → less x.nm t = false)) (fun s9 s10 _ => (intOf s10 - intOf s9).toNat)
  case atStart => exact ⟨0, n, rfl, rfl, by omega, by omega, Below.refl _ _, fun i x hi => by omega, fun i x hi hx => by have := (List.getElem?_eq_some_iff.1 hx).1; rw [HN.out] at this; omega⟩
  case round =>
    obtain ⟨lo, hi, rfl, rfl, hlh, hin, hb, hlo, hhi⟩ := hrel
    have HB := hideIt hb
    have HLO := hideIt hlo
    have HHI := hideIt hhi
    clear hb hlo hhi
    by_cases hlt : lo < hi
    · obtain ⟨mid, hmid⟩ : ∃ mid, (lo + hi) / 2 = mid := ⟨_, rfl⟩
      have m1 : ((lo : Int) + (hi : Int)) / 2 = (mid : Int) := by omega
      have m2 : lo ≤ mid ∧ mid < hi := by omega
      have m3 : (mid : Int) < (n : Int) := by omega
      obtain ⟨b, o, rfl, hcells⟩ := HR.out (by rw [HN.out]; omega)
      obtain ⟨x, hxi⟩ : ∃ x, l[mid]? = some x := ⟨l[mid]'(by rw [HN.out]; omega), by simp⟩
      obtain ⟨c0, c1, c2⟩ := (hcells.below HB.out).2 mid x hxi
      have HXI := hideIt hxi
      have hc := HC.out x.nm t
      have HA2 := hideIt (HA.out x t)
      obtain ⟨z, hz⟩ : ∃ z, Lib.compareBytes x.nm.data.toList t.data.toList = z := ⟨_, rfl⟩
      rw [hz] at hc HA2
      have HC1 := hideIt hc.1
      clear hmid hxi hcells hc hz
      by_cases hz0 : z < 0
      · have z1 : decide (z < 0) = true := decide_eq_true hz0
        go_wp2_with (first | (go_at_call 37; refine (HA2.out _).mono ?_; rintro e w1 ⟨rfl, hb1⟩))
        go_roundw
        case rel =>
          refine ⟨mid + 1, hi, by go_num, rfl, by omega, hin, below2 HB.out hb1, fun i y hi' hy => ?_, HHI.out⟩
          have hx := HC1.out.1 hz0
          rcases (by omega : i < mid ∨ i = mid) with h | h
          · exact less_trans (HU.out.at h hy HXI.out) hx
          · subst h
            rw [HXI.out] at hy
            cases hy
            exact hx
        case measure => simp [intOf]; omega
      · have z1 : decide (z < 0) = false := decide_eq_false hz0
        go_wp2_with (first | (go_at_call 37; refine (HA2.out _).mono ?_; rintro e w1 ⟨rfl, hb1⟩))
        go_roundw
        case rel =>
          refine ⟨lo, mid, rfl, rfl, by omega, by omega, below2 HB.out hb1, HLO.out, fun i y hi' hy => ?_⟩
          have hx : less x.nm t = false := by
            cases hh : less x.nm t with
            | false => rfl
            | true => exact absurd (HC1.out.2 hh) (by omega)
          rcases (by omega : mid < i ∨ i = mid) with h | h
          · cases hh : less y.nm t with
            | false => rfl
            | true => rw [less_trans (HU.out.at h HXI.out hy) hh] at hx; cases hx
          · subst h
            rw [HXI.out] at hy
            cases hy
            exact hx
        case measure => simp [intOf]; omega
    · obtain rfl : lo = hi := by omega
      have hpl : p = lo := by rw [← HP.out]; exact countP_at _ l lo (by rw [HN.out]; omega) HLO.out HHI.out
      subst hpl
      by_cases hpn : p < n
      · have m3 : (p : Int) < (n : Int) := by omega
        have m4 : decide ((p : Int) < (n : Int)) = true := decide_eq_true m3
        obtain ⟨b, o, rfl, hcells⟩ := HR.out (by rw [HN.out]; omega)
        obtain ⟨x, hxi⟩ : ∃ x, l[p]? = some x := ⟨l[p]'(by rw [HN.out]; omega), by simp⟩
        obtain ⟨c0, c1, c2⟩ := (hcells.below HB.out).2 p x hxi
        have hc := HC.out x.nm t
        have HA2 := hideIt (HA.out x t)
        have HF2 : Hid (f = decide (x.nm = t)) := hideIt (by rw [← HF.out, found, HP.out, hxi])
        obtain ⟨z, hz⟩ : ∃ z, Lib.compareBytes x.nm.data.toList t.data.toList = z := ⟨_, rfl⟩
        rw [hz] at hc HA2
        have HC2 := hideIt hc.2
        clear hxi hcells hc hz
        by_cases hz0 : z = 0
        · subst hz0
          go_wp2_with (first | (go_at_call 37; refine (HA2.out _).mono ?_; rintro e w1 ⟨rfl, hb1⟩))
          go_ret2
          refine ⟨?_, below2 HB.out hb1⟩
          rw [HF2.out, decide_eq_true (HC2.out.1 (by first | rfl | trivial))]
          rfl
        · have z1 : (z == 0) = false := by simpa using hz0
          go_wp2_with (first | (go_at_call 37; refine (HA2.out _).mono ?_; rintro e w1 ⟨rfl, hb1⟩))
          go_ret2
          refine ⟨?_, below2 HB.out hb1⟩
          rw [HF2.out, decide_eq_false (fun h => hz0 (HC2.out.2 h))]
          rfl
      · have m4 : decide ((p : Int) < (n : Int)) = false := decide_eq_false (by omega)
        have HF2 : Hid (f = false) := hideIt (by
          rw [← HF.out, found, HP.out, List.getElem?_eq_none (by rw [HN.out]; omega)])
        go_wp2
        go_ret2
        refine ⟨?_, HB.out⟩
        rw [HF2.out]
        rfl
end Go.Proofs.Ytfpnepjdcgghgaa
