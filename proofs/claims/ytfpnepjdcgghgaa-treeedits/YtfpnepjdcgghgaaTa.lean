/- Trees: entries behind entries: append, Grow, Concat, walked. -/
import Derived.Test.YtfpnepjdcgghgaaTg
import Derived.Laws.AppendOwnNone
import Derived.Lib.AppendZeros
namespace Go.Proofs.Ytfpnepjdcgghgaa
open Go.RowKit Go.Shelf
theorem esV_append (a b : List En) : esV (a ++ b) = esV a ++ esV b := by simp [esV]
theorem esV_cell {w : World} {b o : Nat} {l : List En} (h : ECells w b o l) (j : Nat) (u : Value) (hj : (esV l)[j]? = some u) : w.cell? ((⟨b, o, none⟩ : Addr).add j) = some u := by
  have hl : j < l.length * 3 := by have := (List.getElem?_eq_some_iff.1 hj).1; rwa [esV_len] at this
  obtain ⟨x, hx⟩ : ∃ x, l[j / 3]? = some x := ⟨l[j / 3]'(by omega), by simp⟩
  obtain ⟨e0, e1, e2⟩ := esV_at l (j / 3) x hx
  obtain ⟨c0, c1, c2⟩ := h.2 (j / 3) x hx
  have ha : (⟨b, o, none⟩ : Addr).add j = ⟨b, o + j, none⟩ := by simp [Addr.add]
  rw [ha]
  rcases (by omega : j = j / 3 * 3 ∨ j = j / 3 * 3 + 1 ∨ j = j / 3 * 3 + 2) with h' | h' | h'
  · rw [h', e0] at hj; cases hj; rw [h']; exact c0
  · rw [h', e1] at hj; cases hj; rw [h', ← Nat.add_assoc]; exact c1
  · rw [h', e2] at hj; cases hj; rw [h', ← Nat.add_assoc]; exact c2
theorem esV_one : ∀ (l : List En), ∀ u ∈ esV l, u.oneCell' = true := by
  intro l u hu
  simp only [esV, List.mem_flatMap, enV, List.mem_cons, List.not_mem_nil, or_false] at hu
  obtain ⟨x, _, rfl | rfl | rfl⟩ := hu <;> rfl
/-- append(own, entries...), the entries wherever they lie. -/
theorem append_erow (w : World) {ops : Array Oper} {rest : List Oper} {o : Oper} {a : Act} {Q : Exit → Act → World → Prop} (hgd : o.guard = none) (s x : Operand)
    (ho : o.op = .call { callee := .builtin .append, args := #[s, x], argTypes := #[22, 22] }) (B : Nat) (v : Value) (acc : List En) (hs : a.eval s = v)
    (hown : w.ownsRow B 36 3 v acc.length (esV acc)) (xv : Value) (l : List En) (hx : a.eval x = xv) (hrow : ERow w xv l) (hlen : acc.length + l.length ≤ 1000000) (hB : B ≤ w.heap.size)
    (h : ∀ v' w', w'.ownsRow B 36 3 v' (acc ++ l).length (esV (acc ++ l)) → w.grownBy w' v.ownBlock → wpList Try.prog ops Q rest (a.put o.dst v') w') : wpList Try.prog ops Q (o :: rest) a w := by
  obtain ⟨i0, hi0, hz0, hz1, hz2⟩ := info_parts infoE
  obtain ⟨ao, c, rfl, hlc, ⟨hcm, hnone⟩, hrow⟩ := hrow
  cases ao with
  | none =>
    have hl : l = [] := by
      rcases Nat.eq_zero_or_pos l.length with h0 | h0
      · exact List.length_eq_zero_iff.1 h0
      · obtain ⟨b, o', e, _⟩ := hrow h0; cases e
    subst hl
    obtain rfl := hnone rfl
    refine wpList_append_own_none hgd s x 22 ho B 36 i0 3 Try.underlying22 hi0 v acc.length (esV acc) hs hown hx ?_
    exact h v w (by simpa using hown) (World.grownBy.refl _ _)
  | some ad =>
    refine wpList_append_own w hgd s x 22 ho B 36 i0 (.agg #[.string ⟨#[]⟩, .int .i64 0, .string ⟨#[]⟩]) 3 40 Try.underlying22 hi0 hz0 hz1 hz2 rfl (by decide) v acc.length (esV acc) hs hown ad l.length c (esV l) hx (esV_len l) ?_ (esV_one l) (by unfold maxLen; omega) (by omega) hB ?_
    · intro j u hj
      rcases Nat.eq_zero_or_pos l.length with h0 | h0
      · have : l = [] := List.length_eq_zero_iff.1 h0
        subst this
        simp [esV] at hj
      · obtain ⟨b, o', e, hc⟩ := hrow h0
        cases e
        exact esV_cell hc j u hj
    · intro v' w' hown' hg _
      exact h v' w' (by rw [esV_append]; simpa using hown') hg
def GrowTo (w : World) (e : Ending) (w' : World) : Prop := ∃ v, e = .returned v ∧ w'.ownsRow w.heap.size 36 3 v 0 [] ∧ Below w.heap.size w w'
set_option maxHeartbeats 800000 in
set_option maxRecDepth 100000 in
theorem grow_any (n : Nat) (hn : n ≤ 1000000) (w : World) : Calls Try.prog 38 #[.slice none 0 0, .int .i64 n] w fun e w' => GrowTo w e w' := by
  obtain ⟨i0, hi0, hz0, hz1, hz2⟩ := info_parts infoE
  have HT : Hid (∀ e w', GrowTo w e w' ↔ ∃ v, e = .returned v ∧ w'.ownsRow w.heap.size 36 3 v 0 [] ∧ Below w.heap.size w w') := hideIt (fun _ _ => Iff.rfl)
  have n0 : ¬ (n : Int) < 0 := by omega
  by_cases h0 : n = 0
  · subst h0
    go_enter Try.func38, Try.ntmps38
    go_wp2
    go_ret
    exact (HT.out _ _).2 ⟨_, rfl, World.ownsRow_nil _ _ _ _, Below.refl _ _⟩
  · have n1 : (0 : Int) < (n : Int) := by omega
    have n2 : decide ((0 : Int) < (n : Int)) = true := decide_eq_true n1
    have n3 : 0 < n := by omega
    have nI : (n : Int) ≤ 1000000 := by omega
    have hr := hideIt (fun ty => Lib.run_append_nil_zeros (P := Try.prog) w 22 3 ty 36 i0 (.agg #[.string ⟨#[]⟩, .int .i64 0, .string ⟨#[]⟩]) .i64 .i64 Try.underlying22 Try.underlying3 hi0 hz0 n (by omega) (by omega) (by omega) (by rw [hz2]; omega))
    have HG := hideIt (grownCap_ge w n 0 36)
    have HM := hideIt (grownCap_le_maxLen w n 0 36 (by unfold maxLen; omega))
    obtain ⟨gc, hgc⟩ : ∃ gc, grownCap w n 0 36 = gc := ⟨_, rfl⟩
    rw [hgc] at hr HG HM
    go_enter Try.func38, Try.ntmps38
    go_wp2_with (first | (at_builtin; refine Lib.wpList_append_run _ rfl _ _ _ _ rfl _ _ rfl rfl _ _ (hr.out _) ?_))
    go_ret
    refine (HT.out _ _).2 ⟨_, rfl, ⟨rfl, .inr ⟨w.heap.size, gc, _, rfl, Nat.le_refl _, alloc_at rfl, Nat.zero_le _, HM.out, ?_, ?_⟩⟩, ((Below.refl _ w).alloc (Nat.le_refl _) _).drew⟩
    · have := HG.out
      simp [size_zeroCells]
      omega
    · simp
/-- Rows of entries, one a cell. -/
def Parts (w : World) (g : Nat) (ps : List (Value × List En)) : Prop := g < w.heap.size ∧ ∀ i p, ps[i]? = some p → w.cell? ⟨g, i, none⟩ = some p.1 ∧ ERow w p.1 p.2
theorem Parts.below {w w' : World} {g : Nat} {ps : List (Value × List En)} (h : Parts w g ps) (hb : Below w.heap.size w w') : Parts w' g ps :=
  ⟨Nat.lt_of_lt_of_le h.1 hb.size, fun i p hp => ⟨by rw [hb.cell (p := ⟨g, i, none⟩) h.1]; exact (h.2 i p hp).1, (h.2 i p hp).2.below hb⟩⟩
def flat (ps : List (Value × List En)) : List En := ps.flatMap (·.2)
theorem flat_take (ps : List (Value × List En)) (i : Nat) (p : Value × List En) (h : ps[i]? = some p) : flat (ps.take (i + 1)) = flat (ps.take i) ++ p.2 := by
  rw [List.take_add_one, h]
  simp [flat]
theorem flat_le (ps : List (Value × List En)) (i : Nat) : (flat (ps.take i)).length ≤ (flat ps).length := by
  have : flat ps = flat (ps.take i) ++ flat (ps.drop i) := by
    unfold flat
    rw [← List.flatMap_append, List.take_append_drop]
  rw [this, List.length_append]
  omega
def CatTo (w : World) (l : List En) (e : Ending) (w' : World) : Prop := ∃ v, e = .returned v ∧ w'.ownsRow w.heap.size 36 3 v l.length (esV l) ∧ Below w.heap.size w w'
set_option maxHeartbeats 1600000 in
set_option maxRecDepth 100000 in
theorem concat_any (g : Nat) (ps : List (Value × List En)) (c : Nat) (w : World) (h : Parts w g ps) (hc : ps.length ≤ c) (hk : ps.length ≤ 10) (hl : (flat ps).length ≤ 1000000) :
    Calls Try.prog 29 #[.slice (some ⟨g, 0, none⟩) ps.length c] w fun e w' => CatTo w (flat ps) e w' := by
  have HT : Hid (∀ e w', CatTo w (flat ps) e w' ↔ ∃ v, e = .returned v ∧ w'.ownsRow w.heap.size 36 3 v (flat ps).length (esV (flat ps)) ∧ Below w.heap.size w w') := hideIt (fun _ _ => Iff.rfl)
  have HP := hideIt h
  have HFL := hideIt (flat_le ps)
  have HFT := hideIt (flat_take ps)
  have HG := hideIt (grow_any)
  obtain ⟨k, hkk⟩ : ∃ k, ps.length = k := ⟨_, rfl⟩
  rw [hkk] at hk hc ⊢
  have HK := hideIt hkk
  obtain ⟨tot, htot⟩ : ∃ tot, (flat ps).length = tot := ⟨_, rfl⟩
  rw [htot] at hl HFL
  have HTOT := hideIt htot
  have kI : (k : Int) ≤ 10 := by omega
  clear hkk h htot
  go_enter Try.func29, Try.ntmps29
  go_wp2
  go_loopw [11, 3] (fun t u wr => ∃ i : Nat, i ≤ k ∧ t = .int .i64 i ∧ u = .int .i64 ((flat (ps.take i)).length : Nat) ∧ wr = w) (fun t _ _ => k - (intOf t).toNat)
  case atStart => exact ⟨0, by omega, rfl, by simp [flat], rfl⟩
  case round =>
    obtain ⟨i, hi, rfl, rfl, hwr⟩ := hrel
    obtain rfl := hwr.symm
    by_cases hlt : i < k
    · have i1 : (i : Int) < (k : Int) := by omega
      have i2 : decide ((i : Int) < (k : Int)) = true := decide_eq_true i1
      obtain ⟨p, hpi⟩ : ∃ p, ps[i]? = some p := ⟨ps[i]'(by rw [HK.out]; exact hlt), by simp⟩
      obtain ⟨c0, hrow⟩ := HP.out.2 i p hpi
      obtain ⟨pa, pc, hpv, _⟩ := hrow
      rw [hpv] at c0
      have hf := HFT.out i p hpi
      have hf2 := HFL.out (i + 1)
      have hf3 := congrArg List.length hf
      rw [List.length_append] at hf3
      obtain ⟨m, hm⟩ : ∃ m, (flat (ps.take i)).length = m := ⟨_, rfl⟩
      obtain ⟨q, hq⟩ : ∃ q, p.2.length = q := ⟨_, rfl⟩
      obtain ⟨r, hr⟩ : ∃ r, (flat (ps.take (i + 1))).length = r := ⟨_, rfl⟩
      rw [hm, hq, hr] at hf3
      rw [hr] at hf2
      rw [hq] at c0
      rw [hm]
      have HRR := hideIt hr
      have s1 : (m : Int) + (q : Int) = (r : Int) := by omega
      have s2 : ¬ (r : Int) < 0 := by omega
      have s3 : (r : Int) ≤ 1000000 := by omega
      have s4 : (m : Int) ≤ 1000000 := by omega
      have s5 : (q : Int) ≤ 1000000 := by omega
      clear hf hf3 hm hq hr hpi hpv
      go_wp2
      go_roundw
      case rel => exact ⟨i + 1, by omega, by go_num, by rw [HRR.out], by first | rfl | trivial⟩
      case measure => simp [intOf]; omega
    · obtain rfl : i = k := by omega
      have i2 : decide ((i : Int) < (i : Int)) = false := decide_eq_false (by omega)
      have ht : (flat (ps.take i)).length = tot := by rw [← HK.out, List.take_length, HTOT.out]
      rw [ht]
      have hlt' := hlt
      go_wp2_with (first | (go_at_call 38; refine (HG.out tot hl _).mono ?_; rintro e w1 ⟨v1, rfl, ho1, hb1⟩; have HO1 := hideIt ho1; have HB1 := hideIt hb1; clear ho1 hb1))
      clear hlt' hlt hi ht
      go_loopw [27, 6] (fun t u wr => ∃ j : Nat, j ≤ i ∧ t = .int .i64 j ∧ wr.ownsRow w.heap.size 36 3 u (flat (ps.take j)).length (esV (flat (ps.take j))) ∧ Below w.heap.size w wr) (fun t _ _ => i - (intOf t).toNat)
      case atStart => exact ⟨0, by omega, rfl, by simpa [flat, esV] using HO1.out, HB1.out⟩
      case round =>
        obtain ⟨j, hj, rfl, ho, hb⟩ := hrel
        have HO := hideIt ho
        have HB := hideIt hb
        have hws : w.heap.size ≤ wr.heap.size := hb.size
        clear ho hb
        by_cases hlt : j < i
        · have i1 : (j : Int) < (i : Int) := by omega
          have i3 : decide ((j : Int) < (i : Int)) = true := decide_eq_true i1
          obtain ⟨p, hpi⟩ : ∃ p, ps[j]? = some p := ⟨ps[j]'(by rw [HK.out]; exact hlt), by simp⟩
          obtain ⟨c0, hrow⟩ := (HP.out.below HB.out).2 j p hpi
          have HRW := hideIt hrow
          have hf2 := HFL.out (j + 1)
          rw [HFT.out j p hpi, List.length_append] at hf2
          have HE := hideIt (HFT.out j p hpi)
          have HL2 : Hid ((flat (ps.take j)).length + p.2.length ≤ 1000000) := hideIt (by omega)
          clear hf2 hpi hrow
          go_wp2_with (first | (at_builtin; refine append_erow _ rfl _ _ rfl w.heap.size _ (flat (ps.take j)) rfl HO.out _ p.2 rfl HRW.out HL2.out hws ?_; intro v3 w3 hown3 hg3))
          go_roundw
          case rel => exact ⟨j + 1, by omega, by go_num, by rw [HE.out]; exact hown3, HB.out.grown hg3 hws (row_ge HO.out)⟩
          case measure => simp [intOf]; omega
        · obtain rfl : j = i := by omega
          go_wp2
          go_ret
          refine (HT.out _ _).2 ⟨_, rfl, ?_, HB.out⟩
          have := HO.out
          rw [← HK.out, List.take_length] at this
          exact this
end Go.Proofs.Ytfpnepjdcgghgaa
