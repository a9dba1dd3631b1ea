/- Refs: where a name stands in rising refs: walked. -/
import Derived.Test.YtecdjejemohkgaaRfRc
import Derived.Test.YtecdjejemohkgaaRfRe
import Derived.BigQuiet
import Derived.Deep.CutRange
namespace Go.Proofs.Ytecdjejemohkgaa.Rf
open Cb Go.RowKit
theorem cmp_bl : ∀ x y : List UInt8, Lib.compareBytes x y = if Op.bytesLess x y = true then -1 else if x = y then 0 else 1
  | [], [] => rfl
  | [], _ :: _ => rfl
  | _ :: _, [] => by simp [Lib.compareBytes, Op.bytesLess]
  | a :: x, b :: y => by
    rw [Lib.compareBytes, cmp_bl x y]
    simp only [Op.bytesLess, Bool.or_eq_true, decide_eq_true_eq, Bool.and_eq_true, beq_iff_eq, List.cons.injEq]
    by_cases h : a < b
    · simp [h]
    · by_cases h2 : b < a
      · have : a ≠ b := fun e => by subst e; exact h h2
        simp [h, h2, this]
      · have : a = b := by
          apply UInt8.toNat_inj.1
          rw [UInt8.lt_iff_toNat_lt] at h h2
          omega
        simp [this, UInt8.lt_irrefl]
/-- How two texts compare: -1, 0, 1. -/
def cmpB (a b : ByteArray) : Int := Lib.compareBytes a.data.toList b.data.toList
theorem cmpB_is (a b : ByteArray) : cmpB a b = if lt a b then -1 else if a = b then 0 else 1 := by
  rw [cmpB, cmp_bl, bytesLess_eq]
  by_cases h : lt a b
  · have h' : a.data.toList < b.data.toList := h
    simp [h, h']
  · have h' : ¬ a.data.toList < b.data.toList := h
    by_cases e : a = b
    · subst e
      simp [h, h']
    · have e' : ¬ a.data.toList = b.data.toList := fun k => e (bytes_ext k)
      simp [h, h', e, e']
theorem cmpB_neg (a b : ByteArray) : decide (cmpB a b < 0) = decide (lt a b) := by
  rw [cmpB_is]
  by_cases h : lt a b
  · simp [h]
  · by_cases e : a = b
    · subst e
      simp [h]
    · simp [h, e]
theorem cmpB_zero (a b : ByteArray) : (cmpB a b = 0) ↔ a = b := by
  rw [cmpB_is]
  by_cases h : lt a b
  · have : ¬ a = b := fun e => by subst e; exact lt_irrefl _ h
    simp [h, this]
  · by_cases e : a = b
    · subst e
      simp [h]
    · simp [h, e]
set_option maxHeartbeats 400000 in
theorem against_any (x : Rf) (nm : ByteArray) (w : World) : Calls Try.prog 47 #[.agg #[.string x.nm, .string x.id], .string nm] w fun e w' => e = .returned (.int .i64 (cmpB x.nm nm)) ∧ Below w.heap.size w w' := by
  obtain ⟨a, b⟩ := x
  have HC := hideIt (fun w => Try.strings_Compare a nm w)
  go_enter Try.func47, Try.ntmps47
  go_wp2_with (first | (go_at_call 59; refine (HC.out _).mono ?_; rintro e w1 ⟨rfl, hb⟩))
  go_ret
  exact ⟨rfl, (Below.refl _ _).alloc (Nat.le_refl _) _⟩
/-- Names that rise. -/
def Rise (l : List Rf) : Prop := ∀ (i j : Nat) (x y : Rf), i < j → l[i]? = some x → l[j]? = some y → lt x.nm y.nm
/-- The first place whose name is not below a name. -/
def plc (nm : ByteArray) (l : List Rf) : Nat := (l.takeWhile (fun x => decide (lt x.nm nm))).length
theorem plc_is {nm : ByteArray} : ∀ {l : List Rf} {n : Nat}, n ≤ l.length → (∀ i x, i < n → l[i]? = some x → lt x.nm nm) → (∀ x, l[n]? = some x → ¬ lt x.nm nm) → plc nm l = n
  | [], n, h, _, _ => by simp at h; subst h; rfl
  | x :: r, 0, _, _, h => by
    have := h x rfl
    simp [plc, List.takeWhile, this]
  | x :: r, n + 1, hn, h1, h2 => by
    have := h1 0 x (by omega) rfl
    have ih := plc_is (nm := nm) (l := r) (n := n) (by simpa using hn) (fun i y hi hy => h1 (i + 1) y (by omega) (by simpa using hy)) (fun y hy => h2 y (by simpa using hy))
    unfold plc at ih ⊢
    simp [List.takeWhile, this, ih]
/-- Does the name stand there? -/
def hitR (nm : ByteArray) (l : List Rf) (n : Nat) : Bool := match l[n]? with
  | some x => decide (x.nm = nm)
  | none => false
set_option maxHeartbeats 3200000 in
set_option maxRecDepth 100000 in
theorem search_any (v : Value) (l : List Rf) (nm : ByteArray) (w : World) (h : RRow w v l) (hl : l.length ≤ 100000) (hr : Rise l) :
    Calls Try.prog 46 #[v, .string nm, .func (.func 47) #[] #[]] w fun e w' => e = .returned (.tuple #[.int .i64 (plc nm l : Nat), .bool (hitR nm l (plc nm l))]) ∧ Below w.heap.size w w' := by
  obtain ⟨n, hn⟩ : ∃ n, l.length = n := ⟨_, rfl⟩
  have HN := hideIt hn
  have HRI := hideIt hr
  have nI : (n : Int) ≤ 100000 := by omega
  have HR : Hid (∀ i x, l[i]? = some x → ∀ w', Below w.heap.size w w' → ∃ b o c, v = .slice (some ⟨b, o, none⟩) n c ∧ w'.cell? ⟨b, o + i * 2, none⟩ = some (.string x.nm) ∧ w'.cell? ⟨b, o + i * 2 + 1, none⟩ = some (.string x.id)) := hideIt (fun i x hi w' hb => by
    have hil := (List.getElem?_eq_some_iff.1 hi).1
    obtain ⟨b, o, c, e, _, _, h3⟩ := h.cells (by omega)
    rw [hn] at e
    exact ⟨b, o, c, e, h3 i x hi w' hb⟩)
  have HQ : Hid (∀ (x : Rf) w', Calls Try.prog 47 #[.agg #[.string x.nm, .string x.id], .string nm] w' fun e w2 => e = .returned (.int .i64 (cmpB x.nm nm)) ∧ Below w'.heap.size w' w2) := hideIt (fun x w' => against_any x nm w')
  obtain ⟨h0, a, c, hv, h1, h2, h3⟩ := h
  subst hv
  rw [hn] at HR h1 ⊢
  clear h0 h3 hn hl hr
  go_enter Try.func46, Try.ntmps46
  go_wp2
  go_loopw [9, 10] (fun s9 s10 wr => ∃ i j : Nat, i ≤ j ∧ j ≤ n ∧ s9 = .int .i64 (i : Int) ∧ s10 = .int .i64 (j : Int) ∧ Below w.heap.size w wr ∧ (∀ q x, q < i → l[q]? = some x → lt x.nm nm) ∧ (∀ q x, j ≤ q → l[q]? = some x → ¬ lt x.nm nm)) (fun s9 s10 _ => (intOf s10).toNat - (intOf s9).toNat)
  case atStart => exact ⟨0, n, by omega, by omega, rfl, rfl, Below.refl _ _, fun q x hq => by omega, fun q x hq hx => by have := (List.getElem?_eq_some_iff.1 hx).1; have := HN.out; omega⟩
  case round =>
    obtain ⟨i, j, hij, hj, rfl, rfl, hb, hlo, hhi⟩ := hrel
    have HB := hideIt hb
    have HLO := hideIt hlo
    have HHI := hideIt hhi
    clear hb hlo hhi
    have iI : (i : Int) ≤ 100000 := by omega
    have jI : (j : Int) ≤ 100000 := by omega
    by_cases hlt : i < j
    · have i1 : (i : Int) < (j : Int) := by omega
      have i2 : decide ((i : Int) < (j : Int)) = true := decide_eq_true i1
      obtain ⟨k, hk⟩ : ∃ k, (i + j) / 2 = k := ⟨_, rfl⟩
      have hki : i ≤ k := by omega
      have hkj : k < j := by omega
      have k0 : (0 : Int) ≤ (k : Int) := by omega
      have k1 : (k : Int) < (n : Int) := by omega
      have k2 : ((i : Int) + (j : Int)) / 2 = (k : Int) := by omega
      obtain ⟨x, hxi⟩ : ∃ x, l[k]? = some x := ⟨l[k]'(by rw [HN.out]; omega), by simp⟩
      obtain ⟨b, o, c', e, c0, c1⟩ := HR.out k x hxi wr HB.out
      cases e
      have HXI := hideIt hxi
      have HA2 := hideIt (HQ.out x)
      have hneg := cmpB_neg x.nm nm
      clear hxi
      obtain ⟨z, hz⟩ : ∃ z, cmpB x.nm nm = z := ⟨_, rfl⟩
      rw [hz] at HA2 hneg
      by_cases hzn : z < 0
      · have z1 : decide (z < 0) = true := decide_eq_true hzn
        have HLT : Hid (lt x.nm nm) := hideIt (of_decide_eq_true (by rw [← hneg]; exact z1))
        clear hneg hz
        go_wp2_with (first | (go_at_call 47; refine (HA2.out _).mono ?_; rintro e w1 ⟨rfl, hb1⟩))
        go_roundw
        case rel =>
          refine ⟨k + 1, j, by omega, hj, by go_num, rfl, below2 HB.out hb1, fun q y hq hy => ?_, HHI.out⟩
          rcases (by omega : q < k ∨ q = k) with h | h
          · exact lt_trans (HRI.out q k y x h hy HXI.out) HLT.out
          · subst h
            rw [HXI.out] at hy
            cases hy
            exact HLT.out
        case measure => simp [intOf]; omega
      · have z1 : decide (z < 0) = false := decide_eq_false hzn
        have HLT : Hid (¬ lt x.nm nm) := hideIt (of_decide_eq_false (by rw [← hneg]; exact z1))
        clear hneg hz
        go_wp2_with (first | (go_at_call 47; refine (HA2.out _).mono ?_; rintro e w1 ⟨rfl, hb1⟩))
        go_roundw
        case rel =>
          refine ⟨i, k, hki, by omega, rfl, rfl, below2 HB.out hb1, HLO.out, fun q y hq hy => ?_⟩
          rcases (by omega : k < q ∨ k = q) with h | h
          · exact fun hlt2 => HLT.out (lt_trans (HRI.out k q x y h HXI.out hy) hlt2)
          · subst h
            rw [HXI.out] at hy
            cases hy
            exact HLT.out
        case measure => simp [intOf]; omega
    · obtain rfl : i = j := by omega
      have i1 : ¬ (i : Int) < (i : Int) := by omega
      have i2 : decide ((i : Int) < (i : Int)) = false := decide_eq_false i1
      have hpl : plc nm l = i := plc_is (by rw [HN.out]; exact hj) HLO.out (fun x hx => HHI.out i x (by omega) hx)
      have HP : Hid (Ending.returned (.tuple #[.int .i64 ((plc nm l : Nat) : Int), .bool (hitR nm l (plc nm l))]) = Ending.returned (.tuple #[.int .i64 (i : Int), .bool (hitR nm l i)])) := hideIt (by rw [hpl])
      by_cases hin : i < n
      · have m1 : decide ((i : Int) < (n : Int)) = true := decide_eq_true (by omega)
        have m2 : decide (i < n) = true := decide_eq_true hin
        have m3 : (i : Int) < (n : Int) := by omega
        obtain ⟨x, hxi⟩ : ∃ x, l[i]? = some x := ⟨l[i]'(by rw [HN.out]; exact hin), by simp⟩
        obtain ⟨b, o, c', e, c0, c1⟩ := HR.out i x hxi wr HB.out
        cases e
        have HA2 := hideIt (HQ.out x)
        have hhit : hitR nm l i = decide (x.nm = nm) := by rw [hitR, hxi]
        obtain ⟨t, ht⟩ : ∃ t, decide (x.nm = nm) = t := ⟨_, rfl⟩
        rw [ht] at hhit
        obtain ⟨z, hz⟩ : ∃ z, cmpB x.nm nm = z := ⟨_, rfl⟩
        have hze : decide (z = 0) = t := by rw [← hz, ← ht]; exact decide_eq_decide.2 (cmpB_zero _ _)
        have hze2 : (z == 0) = t := by rw [← hze]; rfl
        have hze3 : (z == (0 : Int)) = t := hze2
        rw [hz] at HA2
        have HHIT := hideIt hhit
        clear hxi hhit ht hz hpl
        go_wp2_with (first | (go_at_call 47; refine (HA2.out _).mono ?_; rintro e w1 ⟨rfl, hb1⟩))
        go_ret2
        exact ⟨by rw [HP.out, HHIT.out, ← hze2]; rfl, below2 HB.out hb1⟩
      · have m1 : decide ((i : Int) < (n : Int)) = false := decide_eq_false (by omega)
        have m2 : decide (i < n) = false := decide_eq_false hin
        have HHIT : Hid (hitR nm l i = false) := hideIt (by
          have : l[i]? = none := List.getElem?_eq_none (by rw [HN.out]; omega)
          rw [hitR, this])
        clear hpl
        go_wp2
        go_ret2
        exact ⟨by rw [HP.out, HHIT.out]; rfl, HB.out⟩
end Go.Proofs.Ytecdjejemohkgaa.Rf
