/- Refs: Check, in the program and in the document. -/
import Derived.Test.YtknmmlfdlfioiaaGreatDoorRfRc
import Derived.Sort.Walk0
import Derived.Laws.Cover1
namespace Go.Proofs.YtknmmlfdlfioiaaGreatDoor.Rf
open Cb Go.RowKit
def okN (s : ByteArray) : Bool := headB s || tagB s
/-- Why a ref may not be, behind another one. -/
def stepR (p : Option ByteArray) (x : Rf) : Int := if okN x.nm = false then 50 else if ¬ x.id.size = 32 then 6 else if (∃ q, p = some q ∧ ¬ lt q x.nm) then 61 else 0
/-- Why refs may not be. -/
def chkL : Option ByteArray → List Rf → Int
  | _, [] => 0
  | p, x :: r => if stepR p x = 0 then chkL (some x.nm) r else stepR p x
def chkR (hd : ByteArray) (l : List Rf) : Int := if 256 < l.length then 3 else if headB hd = true then chkL none l else 50
/-- The name ahead of a place. -/
def prevN (l : List Rf) : Nat → Option ByteArray
  | 0 => none
  | i + 1 => (l[i]?).map Rf.nm
theorem mayBeID_any (s : ByteArray) (w : World) : Calls Tryz.prog 62 #[.string s] w fun e w' => e = .returned (.bool (decide (s.size = 32))) ∧ Below w.heap.size w w' := by
  obtain ⟨n, hn⟩ : ∃ n, s.size = n := ⟨_, rfl⟩
  have hn' : (s.size : Int) = (n : Int) := by rw [hn]
  have hd : decide ((n : Int) = (32 : Int)) = decide (n = 32) := by apply decide_eq_decide.2; omega
  rw [hn]
  generalize decide (n = 32) = d at *
  go_enter Tryz.func62, Tryz.ntmps62
  have hd2 : ((n : Int) == (32 : Int)) = d := by rw [← hd]; rfl
  go_wp2
  go_ret
  exact ⟨by rw [← hd2]; rfl, Below.refl _ _⟩
theorem chk_at {l : List Rf} {i : Nat} {x : Rf} (h : l[i]? = some x) : chkL (prevN l i) (l.drop i) = (if stepR (prevN l i) x = 0 then chkL (prevN l (i + 1)) (l.drop (i + 1)) else stepR (prevN l i) x) := by
  have hi := (List.getElem?_eq_some_iff.1 h).1
  have e : l.drop i = x :: l.drop (i + 1) := by
    rw [List.drop_eq_getElem_cons hi]
    rw [(List.getElem?_eq_some_iff.1 h).2]
  rw [e, chkL, show prevN l (i + 1) = some x.nm by simp [prevN, h]]
theorem bl_lt (a b : ByteArray) : Op.bytesLess a.toList b.toList = decide (lt a b) := by rw [bytesLess_eq, ByteArray.toList_eq, ByteArray.toList_eq]; rfl
theorem step_name {p : Option ByteArray} {x : Rf} (h : okN x.nm = false) : stepR p x = 50 := by rw [stepR, if_pos h]
theorem step_id {p : Option ByteArray} {x : Rf} (h : okN x.nm = true) (h2 : decide (x.id.size = 32) = false) : stepR p x = 6 := by rw [stepR, if_neg (by rw [h]; decide), if_pos (of_decide_eq_false h2)]
theorem step_first {x : Rf} (h : okN x.nm = true) (h2 : decide (x.id.size = 32) = true) : stepR none x = 0 := by
  rw [stepR, if_neg (by rw [h]; decide), if_neg (fun c => c (of_decide_eq_true h2)), if_neg (by rintro ⟨q, e, _⟩; cases e)]
theorem step_low {q : ByteArray} {x : Rf} (h : okN x.nm = true) (h2 : decide (x.id.size = 32) = true) (h3 : decide (lt q x.nm) = false) : stepR (some q) x = 61 := by
  rw [stepR, if_neg (by rw [h]; decide), if_neg (fun c => c (of_decide_eq_true h2)), if_pos ⟨q, rfl, of_decide_eq_false h3⟩]
theorem step_rise {q : ByteArray} {x : Rf} (h : okN x.nm = true) (h2 : decide (x.id.size = 32) = true) (h3 : decide (lt q x.nm) = true) : stepR (some q) x = 0 := by
  rw [stepR, if_neg (by rw [h]; decide), if_neg (fun c => c (of_decide_eq_true h2)), if_neg (by rintro ⟨q', e, h4⟩; cases e; exact h4 (of_decide_eq_true h3))]
theorem prev_at {l : List Rf} {k : Nat} {y : Rf} (h : l[k]? = some y) : prevN l (k + 1) = some y.nm := by simp [prevN, h]
set_option maxHeartbeats 3200000 in
set_option maxRecDepth 100000 in
theorem check_any (hd : ByteArray) (v : Value) (l : List Rf) (w : World) (h : RRow w v l) (hl : l.length ≤ 100000) :
    Calls Tryz.prog 36 #[.agg #[.string hd, v]] w fun e w' => e = .returned (.int .i64 (chkR hd l)) ∧ Below w.heap.size w w' := by
  obtain ⟨W, hW⟩ : ∃ W, w.alloc (.cells #[.string hd, v] 37) = W := ⟨_, rfl⟩
  have hb : Below w.heap.size w W := by rw [← hW]; exact (Below.refl _ w).alloc (Nat.le_refl _) _
  have hsz : W.heap.size = w.heap.size + 1 := by rw [← hW]; simp
  have hcv : W.cell? ⟨w.heap.size, 1, none⟩ = some v := cellAt (by rw [← hW]; exact alloc_at rfl) rfl
  have HF : Hid (∀ w', Below W.heap.size W w' → w'.cell? ⟨w.heap.size, 1, none⟩ = some v) := hideIt (fun w' hb' => by rw [hb'.cell (p := ⟨w.heap.size, 1, none⟩) (by show w.heap.size < _; omega)]; exact hcv)
  have HB := hideIt hb
  have HW := hideIt hW
  obtain ⟨n, hn⟩ : ∃ n, l.length = n := ⟨_, rfl⟩
  have HN := hideIt hn
  have nI : (n : Int) ≤ 100000 := by omega
  have HR : Hid (∀ i x, l[i]? = some x → ∃ b o c, v = .slice (some ⟨b, o, none⟩) n c ∧ ∀ w', Below W.heap.size W w' → w'.cell? ⟨b, o + i * 2, none⟩ = some (.string x.nm) ∧ w'.cell? ⟨b, o + i * 2 + 1, none⟩ = some (.string x.id)) := hideIt (fun i x hi => by
    have hil := (List.getElem?_eq_some_iff.1 hi).1
    obtain ⟨b, o, c, e, _, _, h3⟩ := h.cells (by omega)
    rw [hn] at e
    exact ⟨b, o, c, e, fun w' hb' => h3 i x hi w' (below_step hb (Nat.le_refl _) hb')⟩)
  have HH := hideIt (fun w => head_any hd w)
  obtain ⟨p, hp⟩ : ∃ p, chkR hd l = p := ⟨_, rfl⟩
  have HP : Hid (p = if 256 < n then 3 else if headB hd = true then chkL none l else 50) := hideIt (by rw [← hp, chkR, hn])
  rw [hp]
  obtain ⟨h0, a, c, hv, h1, h2, h3⟩ := h
  subst hv
  rw [hn] at HR h1 hcv HF HW ⊢
  clear h0 h3 hp hn hl hb hW hcv
  by_cases h256 : 256 < n
  · have d1 : decide ((256 : Int) < (n : Int)) = true := decide_eq_true (by omega)
    have HZ : Hid (p = 3) := hideIt (by rw [HP.out, if_pos h256])
    go_enter Tryz.func36, Tryz.ntmps36
    go_wp2
    go_ret
    exact ⟨by rw [HZ.out]; rfl, by rw [HW.out]; exact HB.out⟩
  · have d1 : decide ((256 : Int) < (n : Int)) = false := decide_eq_false (by omega)
    have hp2 := HP.out
    rw [if_neg h256] at hp2
    generalize headB hd = H at hp2 HH
    cases H
    · have HZ : Hid (p = 50) := hideIt (by rw [hp2]; rfl)
      clear hp2
      go_enter Tryz.func36, Tryz.ntmps36
      go_wp2_with (first | (go_at_call 60; rw [HW.out]; refine (HH.out _).mono ?_; rintro e w1 ⟨rfl, hb1⟩))
      go_ret
      exact ⟨by rw [HZ.out]; rfl, below_step HB.out (Nat.le_refl _) hb1⟩
    · have HQ0 : Hid (p = chkL (prevN l 0) (l.drop 0)) := hideIt (by rw [hp2]; rfl)
      clear hp2
      go_enter Tryz.func36, Tryz.ntmps36
      go_wp2_with (first | (go_at_call 60; rw [HW.out]; refine (HH.out _).mono ?_; rintro e w1 ⟨rfl, hb1⟩; have hcv := HF.out _ hb1))
      go_loopw [16] (fun s16 wr => ∃ i : Nat, i ≤ n ∧ s16 = .int .i64 (i : Int) ∧ Below W.heap.size W wr ∧ p = chkL (prevN l i) (l.drop i)) (fun s16 _ => n - (intOf s16).toNat)
      case atStart => exact ⟨0, by omega, rfl, hb1, HQ0.out⟩
      case round =>
        obtain ⟨i, hi, rfl, hbr, hpi⟩ := hrel
        have HBR := hideIt hbr
        have hcv2 := HF.out _ hbr
        by_cases hlt : i < n
        · have i1 : (i : Int) < (n : Int) := by omega
          have i2 : decide ((i : Int) < (n : Int)) = true := decide_eq_true i1
          obtain ⟨x, hxi⟩ : ∃ x, l[i]? = some x := ⟨l[i]'(by rw [HN.out]; exact hlt), by simp⟩
          obtain ⟨b, o, c', e, hcc⟩ := HR.out i x hxi
          cases e
          obtain ⟨c0, c1⟩ := hcc wr hbr
          have HL := hideIt (fun w => ref_any x.nm w)
          have HM := hideIt (fun w => mayBeID_any x.id w)
          have hp3 := hpi
          rw [chk_at hxi] at hp3
          have hXW : Below W.heap.size W (wr.alloc (.cells #[.string x.nm, .string x.id] 65)) := hbr.alloc hbr.size _
          have HY : Hid (∀ w', Below (wr.alloc (.cells #[.string x.nm, .string x.id] 65)).heap.size (wr.alloc (.cells #[.string x.nm, .string x.id] 65)) w' → (w'.cell? ⟨wr.heap.size, 0, none⟩ = some (.string x.nm) ∧ w'.cell? ⟨wr.heap.size, 1, none⟩ = some (.string x.id)) ∧ Below W.heap.size W w') := hideIt (fun w' hb' => by
            refine ⟨⟨?_, ?_⟩, hXW.trans (hb'.mono hXW.size)⟩
            · rw [hb'.cell (p := ⟨wr.heap.size, 0, none⟩) (by simp)]
              exact cellAt (alloc_at rfl) rfl
            · rw [hb'.cell (p := ⟨wr.heap.size, 1, none⟩) (by simp)]
              exact cellAt (alloc_at rfl) rfl)
          obtain ⟨f, hf⟩ : ∃ f, okN x.nm = f := ⟨_, rfl⟩
          have hf' : (headB x.nm || tagB x.nm) = f := hf
          rw [hf'] at HL
          obtain ⟨g, hg⟩ : ∃ g, decide (x.id.size = 32) = g := ⟨_, rfl⟩
          rw [hg] at HM
          have HCC := hideIt hcc
          clear hf' hcc hbr hpi hXW
          cases f
          · have HZ : Hid (p = 50) := hideIt (by rw [hp3, step_name hf]; rfl)
            clear hp3 hf hg hxi
            go_wp2_with (first | (go_at_call 61; refine (HL.out _).mono ?_; rintro e w2 ⟨rfl, hb2⟩; obtain ⟨⟨q0, q1⟩, q2⟩ := HY.out _ hb2))
            go_ret
            exact ⟨by rw [HZ.out]; rfl, below_step HB.out (Nat.le_refl _) q2⟩
          · cases g
            · have HZ : Hid (p = 6) := hideIt (by rw [hp3, step_id hf hg]; rfl)
              clear hp3 hf hg hxi
              go_wp2_with (first | (go_at_call 61; refine (HL.out _).mono ?_; rintro e w2 ⟨rfl, hb2⟩; obtain ⟨⟨q0, q1⟩, q2⟩ := HY.out _ hb2) | (go_at_call 62; refine (HM.out _).mono ?_; rintro e w3 ⟨rfl, hb3⟩))
              go_ret
              exact ⟨by rw [HZ.out]; rfl, below_step HB.out (Nat.le_refl _) (below_step q2 (Nat.le_refl _) hb3)⟩
            · by_cases hi0 : i = 0
              · have j1 : decide ((0 : Int) < (i : Int)) = false := decide_eq_false (by omega)
                have j0 : decide (0 < i) = false := decide_eq_false (by omega)
                have HZ : Hid (p = chkL (prevN l (i + 1)) (l.drop (i + 1))) := hideIt (by rw [hp3, if_pos (by rw [hi0]; exact step_first hf hg)])
                clear hp3 hf hg hxi hi0
                go_wp2_with (first | (go_at_call 61; refine (HL.out _).mono ?_; rintro e w2 ⟨rfl, hb2⟩; obtain ⟨⟨q0, q1⟩, q2⟩ := HY.out _ hb2) | (go_at_call 62; refine (HM.out _).mono ?_; rintro e w3 ⟨rfl, hb3⟩; have q3 := below_step q2 (Nat.le_refl _) hb3; clear q2 hb3))
                go_quiet (fail)
                go_wp2
                go_roundw
                case rel => exact ⟨i + 1, by omega, by go_num, below_step q3 (Nat.le_refl _) (below_drewN _ _), HZ.out⟩
                case measure => simp [intOf]; omega
              · obtain ⟨k, hk⟩ : ∃ k, i = k + 1 := ⟨i - 1, by omega⟩
                have j1 : decide ((0 : Int) < (i : Int)) = true := decide_eq_true (by omega)
                have j0 : decide (0 < i) = true := decide_eq_true (by omega)
                have j2 : (i : Int) - 1 = (k : Int) := by omega
                have j3 : (0 : Int) ≤ (k : Int) := by omega
                have j5 : IntKind.i64.wrap (k : Int) = (k : Int) := by rw [IntKind.wrap_i64]; omega
                have j4 : (k : Int) < (n : Int) := by omega
                obtain ⟨y, hy⟩ : ∃ y, l[k]? = some y := ⟨l[k]'(by rw [HN.out]; omega), by simp⟩
                have HCY : Hid (∀ w', Below W.heap.size W w' → w'.cell? ⟨b, o + k * 2, none⟩ = some (.string y.nm)) := hideIt (fun w' hb' => by
                  obtain ⟨b', o', c2, e, hcy⟩ := HR.out k y hy
                  cases e
                  exact (hcy w' hb').1)
                have hbl := bl_lt y.nm x.nm
                obtain ⟨t, ht⟩ : ∃ t, decide (lt y.nm x.nm) = t := ⟨_, rfl⟩
                rw [ht] at hbl
                have hpr : prevN l i = some y.nm := by rw [hk]; exact prev_at hy
                rw [hpr] at hp3
                cases t
                · have HZ : Hid (p = 61) := hideIt (by rw [hp3, step_low hf hg ht]; rfl)
                  clear hp3 hf hg hxi hy hpr ht hk
                  go_wp2_with (first | (go_at_call 61; refine (HL.out _).mono ?_; rintro e w2 ⟨rfl, hb2⟩; obtain ⟨⟨q0, q1⟩, q2⟩ := HY.out _ hb2) | (go_at_call 62; refine (HM.out _).mono ?_; rintro e w3 ⟨rfl, hb3⟩; have q3 := below_step q2 (Nat.le_refl _) hb3; have q4 := HCY.out _ q3; have q5 := HF.out _ q3; have q6 := (HY.out _ (below_step hb2 (Nat.le_refl _) hb3)).1.1; clear q0 q1 q2 hb3 hb2))
                  go_quiet (fail)
                  go_wp2
                  go_ret
                  exact ⟨by rw [HZ.out]; rfl, below_step HB.out (Nat.le_refl _) (below_step q3 (Nat.le_refl _) (below_drewN _ _))⟩
                · have HZ : Hid (p = chkL (prevN l (i + 1)) (l.drop (i + 1))) := hideIt (by rw [hp3, if_pos (step_rise hf hg ht)])
                  clear hp3 hf hg hxi hy hpr ht hk
                  go_wp2_with (first | (go_at_call 61; refine (HL.out _).mono ?_; rintro e w2 ⟨rfl, hb2⟩; obtain ⟨⟨q0, q1⟩, q2⟩ := HY.out _ hb2) | (go_at_call 62; refine (HM.out _).mono ?_; rintro e w3 ⟨rfl, hb3⟩; have q3 := below_step q2 (Nat.le_refl _) hb3; have q4 := HCY.out _ q3; have q5 := HF.out _ q3; have q6 := (HY.out _ (below_step hb2 (Nat.le_refl _) hb3)).1.1; clear q0 q1 q2 hb3 hb2))
                  go_quiet (fail)
                  go_wp2
                  go_roundw
                  case rel => exact ⟨i + 1, by omega, by go_num, below_step q3 (Nat.le_refl _) (below_drewN _ _), HZ.out⟩
                  case measure => simp [intOf]; omega
        · have i2 : decide ((i : Int) < (n : Int)) = false := decide_eq_false (by omega)
          obtain rfl : i = n := by omega
          have HZ : Hid (p = 0) := hideIt (by
            rw [hpi, List.drop_of_length_le (by rw [HN.out]; omega), chkL])
          clear hpi
          go_wp2
          go_ret
          exact ⟨by rw [HZ.out]; rfl, below_step HB.out (Nat.le_refl _) HBR.out⟩
end Go.Proofs.YtknmmlfdlfioiaaGreatDoor.Rf
