/- Chains: Solve at items of objects that are made of one another: walked. -/
import Derived.Test.YtdbbgpcjclmelaaGreatDoorChCr
namespace Go.Proofs.YtdbbgpcjclmelaaGreatDoor.Ch
open Cb Go.RowKit Go.Shelf Go.Maps
/-- What is asked of the items. -/
structure Sx (w : World) (v : Value) (raws : List ByteArray) (its : List Im) (par : Nat → Option Nat) (dp : Nat → Nat) : Prop where
  rows : VRow 3 w v its.length (imsV its)
  fst : Fst raws par its
  dp0 : ∀ i, par i = none → dp i = 0
  dp1 : ∀ i k, par i = some k → dp i = dp k + 1
  sz : ∀ (i : Nat) (r : ByteArray), raws[i]? = some r → r.size ≤ 262208
  few : raws.length ≤ 2048
  ko : Ob.Ok w
  lk : ∀ (i : Nat) (r : ByteArray), raws[i]? = some r → ∀ X, Ob.Ok X → Calls Tryz.prog 60 #[.string r] X fun e w' => e = .returned (.tuple #[.slice none 0 0, .int .i64 0]) ∧ Below X.heap.size X w'
theorem Sx.bsz {w : World} {v : Value} {raws : List ByteArray} {its : List Im} {par : Nat → Option Nat} {dp : Nat → Nat} (h : Sx w v raws its par dp) : ∀ x ∈ its, x.b.size ≤ 1000 := by
  intro x hx
  obtain ⟨i, hi, rfl⟩ := List.mem_iff_getElem.1 hx
  have hil : i < raws.length := by rw [← h.fst.len]; exact hi
  obtain ⟨y, r, hy, hr⟩ := h.fst.get hil
  have e : its[i] = y := by
    rw [List.getElem?_eq_getElem hi] at hy
    exact Option.some.inj hy
  rw [e]
  cases hp : par i with
  | none =>
    rw [(h.fst.whole i y r hy hr hp).1]
    decide
  | some k =>
    have hk := h.fst.lt i k hp
    obtain ⟨_, b, _, hb⟩ := h.fst.get (i := k) (by omega)
    rw [(h.fst.made i k y r b hy hr hb hp).1, shaB_size]
    omega
/-- The queue and the solver, behind so many. -/
def Rn (w W0 : World) (A : Ad) (raws : List ByteArray) (its : List Im) (par : Nat → Option Nat) (dp : Nat → Nat) (m : Nat) (q : List Nat) (tq : Value) (X : World) : Prop :=
  m ≤ q.length ∧ Qs par raws.length q m ∧ X.ownsRow W0.heap.size 3 1 tq q.length (nums (intsN q)) ∧ SM w W0 A raws its dp (q.take m) (q.take m) (q.take m) (q.take m) X ∧ ∀ i ∈ q.take m, dp i ≤ 12
set_option maxHeartbeats 3200000 in
set_option maxRecDepth 100000 in
theorem solve_any (v : Value) (raws : List ByteArray) (its : List Im) (par : Nat → Option Nat) (dp : Nat → Nat) (w : World) (h : Sx w v raws its par dp) :
    Calls Tryz.prog 22 #[v] w fun e w' => SvTo w raws its dp e w' := by
  obtain ⟨k0, hk0, hy0, hy1, hy2⟩ := info_parts infoZ
  have HT : Hid (∀ e w', SvTo w raws its dp e w' ↔ ((∃ v1 v2, e = .returned (.tuple #[v1, v2, .int .i64 0]) ∧ TRow w' v1 raws ∧ VRow 2 w' v2 raws.length (spL raws its)) ∧ (∀ i, i < raws.length → dp i ≤ 12) ∧ Below w.heap.size w w') ∨
    (e = .returned (.tuple #[.slice none 0 0, .slice none 0 0, .int .i64 120]) ∧ (∃ i, i < raws.length ∧ 12 < dp i) ∧ Below w.heap.size w w')) := hideIt (fun _ _ => Iff.rfl)
  have hlen := h.fst.len
  have hfew := h.few
  have HNS := hideIt (newSolver_any v its w h.rows (by omega) h.bsz)
  have HCX : Hid (∀ A W1 W0, NsAt w v its.length A W1 → Gp w W1 A.b4 its its.length W0 → Cx w W0 W1 A v raws its par dp ∧ SM w W0 A raws its dp [] [] [] [] W0 ∧ WaitAt W0 W1 A its) := hideIt (fun A W1 W0 hn hg => by
    rw [hlen] at hn
    have hg' := hg
    rw [hlen] at hg'
    obtain ⟨s1, s2, s3⟩ := sm_start (raws := raws) (its := its) (dp := dp) rfl hn hg'
    obtain ⟨D, hG, hD, _, _, _⟩ := hg
    exact ⟨⟨hn.ok, s3, s2, h.rows, h.fst, h.dp0, h.dp1, h.sz, h.few, h.ko, h.lk⟩, s1, ⟨D, hG, hD⟩⟩)
  have HQ0 := hideIt (Qs.start h.fst)
  have HF := hideIt h.fst
  obtain ⟨_, a, c, rfl, hlc, ⟨hcm, _⟩, _⟩ := h.rows
  have HLN := hideIt hlen
  have hf2 : its.length ≤ 2048 := by omega
  have nI : (its.length : Int) ≤ 2048 := by omega
  have n1 : ¬ (2048 : Int) < (its.length : Int) := by omega
  have n2 : decide ((2048 : Int) < (its.length : Int)) = false := decide_eq_false n1
  unfold maxLen at hcm
  have HKL : Hid (∀ key, (intsN (kids its key)).length ≤ 2048) := hideIt (fun key => by
    have := kids_len its key its.length
    rw [intsN_len]
    unfold kids
    omega)
  have HF5 := hideIt hf2
  clear h hlen hf2
  go_enter Tryz.func22, Tryz.ntmps22
  go_wp2_with (first
    | (go_at_call 40; refine HNS.out.mono ?_; rintro e W0 ⟨A, W1, rfl, hns, hg⟩; obtain ⟨hcx, hs0, hwt⟩ := HCX.out A W1 W0 hns hg; obtain ⟨z0, z1, z2, z3, z4, z5⟩ := box_cells hcx.bx; obtain ⟨u, hl, hu⟩ := wait_get hcx hwt hs0 ⟨#[]⟩ (by decide) 0; have hl0 : (Instr.lookup 67 (.map (some A.b4)) (.string ⟨#[]⟩) false).run Tryz.prog W0 = .ok u W0 := hl; have CX := hideIt hcx; have S0 := hideIt hs0; have U0 := hideIt hu; have WT := hideIt hwt; clear hns hg hcx hs0 hl hu hwt)
    | (go_at_call 41; refine (cloneN_any _ _ _ U0.out (Nat.le_trans (HKL.out _) (by omega))).mono ?_; rintro e X0 ⟨tq, rfl, hq, hb⟩; have R0 : Hid (Rn w W0 A raws its par dp 0 (kids its ⟨#[]⟩) tq X0) := hideIt ⟨Nat.zero_le _, HQ0.out, by rw [intsN_len] at hq; exact hq, S0.out.after hb, by simp⟩; clear hq hb))
  clear z0 z1 z2 z3 z4 z5 hl0
  go_loopw [6, 7] (fun t6 t7 wr => ∃ (m : Nat) (q : List Nat), t7 = .int .i64 (m : Int) ∧ Rn w W0 A raws its par dp m q t6 wr) (fun _ t7 _ => raws.length - (intOf t7).toNat)
  case atStart => exact ⟨0, _, rfl, R0.out⟩
  case round =>
    obtain ⟨m, q, rfl, hmq, hQ, hown, hS, h12⟩ := hrel
    have hcap := hQ.cap
    have HS := hideIt hS
    have HQ := hideIt hQ
    have HO := hideIt hown
    have H12 := hideIt h12
    obtain ⟨_, a6, c6, e6, hl6, ⟨hm6, _⟩, hr6⟩ := VRow.of_row hown
    obtain ⟨l, hl⟩ : ∃ l, q.length = l := ⟨_, rfl⟩
    have HL := hideIt hl
    rw [hl] at hmq hcap e6 hl6 hr6
    subst e6
    have HR6 := hideIt hr6
    have lI : (l : Int) ≤ 2048 := by have := HLN.out; have := HF5.out; omega
    unfold maxLen at hm6
    by_cases hlt : m < l
    · have m1 : (m : Int) < (l : Int) := by omega
      have m2 : decide ((m : Int) < (l : Int)) = true := decide_eq_true m1
      obtain ⟨b6, o6, rfl, hc6⟩ := HR6.out (by omega)
      obtain ⟨i, hi⟩ : ∃ i, q[m]? = some i := ⟨q[m]'(by rw [HL.out]; exact hlt), by simp⟩
      have d0 := hc6.2 m _ (nums_at (l := intsN q) (x := (i : Int)) (by simp [intsN, hi]))
      have hil := hQ.lt hi
      have hnew := hQ.new hi
      obtain ⟨x, r, hx, hr⟩ := HF.out.get hil
      have HI := hideIt hi
      have hmr : (q.take m).length ≤ 2048 := by rw [List.length_take]; have := HLN.out; have := HF5.out; omega
      have lr := (CX.out.late HS.out)
      have hp : ∀ k, par i = some k → k ∈ q.take m := fun k hk => hQ.base hi hk
      by_cases g12 : dp i ≤ 12
      · have HSO := hideIt (solve_ok lr HS.out.late hil hnew hmr hp g12)
        have HTK := hideIt (take_snoc hi)
        have HQN := hideIt (hQ.next HF.out hi hr)
        have HILT := hideIt hil
        have HCP := hideIt hcap
        have HGD : Hid (raws.getD i ⟨#[]⟩ = r) := hideIt (by rw [List.getD, hr]; rfl)
        have HG12 := hideIt g12
        have hrl : (i : Int) < (raws.length : Int) := by omega
        have hrl2 : decide ((i : Int) < (raws.length : Int)) = true := decide_eq_true hrl
        have hkl := HKL.out (shaB r)
        rw [intsN_len] at hkl
        have HKN := hideIt hkl
        have hr2048 : (raws.length : Int) ≤ 2048 := by have := HLN.out; omega
        clear hQ hS hown h12 hc6 hr6 hl hi hil hnew hmr hp lr hx hr g12 hcap hkl
        go_wp2_with (first
          | (go_at_call 42; refine HSO.out.mono ?_; rintro e X5 ⟨rfl, hs5⟩; have S5 := hideIt (HS.out.early hs5); have O5 := hideIt (HS.out.row CX.out.ok CX.out.le hs5 HO.out); obtain ⟨z0, z1, z2, z3, z4, z5⟩ := box_cells (S5.out.box CX.out.ok CX.out.le CX.out.bx); obtain ⟨_, _, y2, _, _, _, _⟩ := S5.out.at HILT.out; rw [if_pos (by simp), HGD.out] at y2; obtain ⟨u5, hl5, hu5⟩ := wait_get CX.out WT.out S5.out (shaB r) (by rw [shaB_size]; omega) 1; have hl6 : (Instr.lookup 67 (.map (some A.b4)) (.string (shaB r)) false).run Tryz.prog X5.drew = .ok u5 X5.drew := hl5; have U5 := hideIt (hu5.below (below_drewN X5 1)); clear hs5 hl5 hu5))
        have HO6 : Hid (X5.drew.ownsRow W0.heap.size 3 1 (.slice (some ⟨b6, o6, none⟩) l c6) l (nums (intsN q))) := hideIt (by have := O5.out; rw [HL.out] at this; exact this)
        have hbase : W0.heap.size ≤ X5.drew.heap.size := S5.out.z
        generalize shaB r = S at y2 hl6 U5 HQN HKN
        go_region_law (refine step_append_row _ (by rfl) (.tmp 37) (.tmp 50) 23 (by rfl) W0.heap.size 3 k0 (.int .i64 0) 8 Tryz.underlying23 hk0 hy0 hy1 hy2 rfl (.slice (some ⟨b6, o6, none⟩) l c6) l (nums (intsN q)) (by rfl) HO6.out u5 _ (nums (intsN (kids its S))) (by rfl) U5.out (fun u hu => by obtain ⟨x, _, rfl⟩ := List.mem_map.1 hu; rfl) (by rw [intsN_len]; have := HKN.out; unfold maxLen; omega) (by rw [intsN_len]; have := HKN.out; omega) hbase ?_; intro v6 w6 hown6 hg6; have FN : Hid (Rn w W0 A raws its par dp (m + 1) (q ++ kids its S) v6 w6) := hideIt ⟨by rw [List.length_append, HL.out]; omega, HQN.out, by
            have e1 : (q ++ kids its S).length = l + (intsN (kids its S)).length := by rw [List.length_append, HL.out, intsN_len]
            have e2 : nums (intsN (q ++ kids its S)) = nums (intsN q) ++ nums (intsN (kids its S)) := by simp [nums, intsN]
            rw [e1, e2]
            exact hown6, by
            have e : (q ++ kids its S).take (m + 1) = q.take m ++ [i] := by rw [List.take_append_of_le_length (by rw [HL.out]; omega), HTK.out]
            rw [e]
            exact (S5.out.after (below_drewN X5 1)).grown CX.out.ok CX.out.le hg6 (fun g hg => row_ge HO6.out g hg), by
            have e : (q ++ kids its S).take (m + 1) = q.take m ++ [i] := by rw [List.take_append_of_le_length (by rw [HL.out]; omega), HTK.out]
            rw [e]
            intro j hj
            rcases List.mem_append.1 hj with hj | hj
            · exact H12.out j hj
            · rw [List.mem_singleton.1 hj]
              exact HG12.out⟩; clear hown6 hg6)
        all_goals go_wp2
        all_goals exact ⟨⟨m + 1, _, by go_num, FN.out⟩, by have := HCP.out; simp [intOf]; omega⟩
      · obtain ⟨k, hk⟩ : ∃ k, par i = some k := by
          cases hpi : par i with
          | none => exact absurd (CX.out.dp0 i hpi) (by omega)
          | some k => exact ⟨k, rfl⟩
        have HSF := hideIt (solve_far lr HS.out.late hil hk (hp k hk) (h12 k (hp k hk)) (by omega))
        have HEX : Hid (∃ i, i < raws.length ∧ 12 < dp i) := hideIt ⟨i, hil, by omega⟩
        clear hQ hS hown h12 hc6 hr6 hl hi hil hnew hmr hp lr hx hr g12 hcap hk
        go_wp2_with (first | (go_at_call 42; refine HSF.out.mono ?_; rintro e X5 ⟨rfl, hb5⟩))
        go_ret3
        exact (HT.out _ _).2 (.inr ⟨rfl, HEX.out, hb5⟩)
    · have m2 : decide ((m : Int) < (l : Int)) = false := decide_eq_false (by omega)
      obtain rfl : m = l := by omega
      have htk : q.take m = q := by rw [← hl, List.take_length]
      have hmq2 : q.length = m := hl
      rw [htk] at hS h12
      have hQ' : Qs par raws.length q q.length := by rw [hmq2]; exact hQ
      have hfull := hQ'.full HF.out.lt
      have hall : ∀ i, i < raws.length → i ∈ q := fun i hi => hQ'.all HF.out.lt (i + 1) i (by omega) hi
      have hln := HLN.out
      have m3 : ¬ (m : Int) < (its.length : Int) := by omega
      have m4 : decide ((m : Int) < (its.length : Int)) = false := decide_eq_false m3
      obtain ⟨z0, z1, z2, z3, z4, z5⟩ := box_cells (hS.box CX.out.ok CX.out.le CX.out.bx)
      have HFN := hideIt (hS.fin hall (by have := HF5.out; omega))
      have HBL := hideIt hS.bl
      have HA12 : Hid (∀ i, i < raws.length → dp i ≤ 12) := hideIt (fun i hi => h12 i (hall i hi))
      clear hQ hS hown h12 hr6 hl hcap htk hmq2 hQ' hfull hall hln
      go_wp2
      go_quiet (fail)
      go_wp2
      go_ret3
      exact (HT.out _ _).2 (.inl ⟨⟨_, _, rfl, VRow.below HFN.out.1 (below_drewN _ _), HFN.out.2.below (below_drewN _ _)⟩, HA12.out, below2 HBL.out (below_drewN _ _)⟩)
end Go.Proofs.YtdbbgpcjclmelaaGreatDoor.Ch
