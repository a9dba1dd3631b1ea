/- Refs: updates in memory; what may be asked for. -/
import Derived.Test.YtecdjejemohkgaaRfRe
namespace Go.Proofs.Ytecdjejemohkgaa.Rf
open Cb Go.RowKit
/-- An update. -/
structure Up where
  nm : ByteArray
  old : ByteArray
  new : ByteArray
  force : Bool
def upV (u : Up) : List Value := [.string u.nm, .string u.old, .string u.new, .bool u.force]
def upA (u : Up) : Value := .agg #[.string u.nm, .string u.old, .string u.new, .bool u.force]
def upsV (l : List Up) : List Value := l.flatMap upV
theorem upsV_len : ∀ l : List Up, (upsV l).length = l.length * 4
  | [] => rfl
  | x :: t => by
    have := upsV_len t
    unfold upsV at this ⊢
    simp [upV] at this ⊢
    omega
theorem upsV_at : ∀ (l : List Up) (j : Nat) (x : Up), l[j]? = some x → ∀ k u, (upV x)[k]? = some u → (upsV l)[j * 4 + k]? = some u
  | [], j, x, h, _, _, _ => by simp at h
  | y :: t, 0, x, h, k, u, hk => by
    simp at h
    subst h
    have hl : k < (upV y).length := (List.getElem?_eq_some_iff.1 hk).1
    rw [show upsV (y :: t) = upV y ++ upsV t from rfl, Nat.zero_mul, Nat.zero_add, List.getElem?_append_left hl]
    exact hk
  | y :: t, j + 1, x, h, k, u, hk => by
    have h' : t[j]? = some x := by simpa using h
    have := upsV_at t j x h' k u hk
    have hl : (upV y).length = 4 := rfl
    rw [show upsV (y :: t) = upV y ++ upsV t from rfl, List.getElem?_append_right (by omega), hl, show (j + 1) * 4 + k - 4 = j * 4 + k by omega]
    exact this
def URow (w : World) (v : Value) (l : List Up) : Prop := VRow 4 w v l.length (upsV l)
/-- The four cells of an update at a place. -/
def UAt (w : World) (b o : Nat) (u : Up) : Prop := w.cell? ⟨b, o, none⟩ = some (.string u.nm) ∧ w.cell? ⟨b, o + 1, none⟩ = some (.string u.old) ∧ w.cell? ⟨b, o + 2, none⟩ = some (.string u.new) ∧ w.cell? ⟨b, o + 3, none⟩ = some (.bool u.force)
theorem URow.below {w w' : World} {v : Value} {l : List Up} (h : URow w v l) (hb : Below w.heap.size w w') : URow w' v l := VRow.below h hb
theorem URow.cells {w : World} {v : Value} {l : List Up} (h : URow w v l) (hp : 0 < l.length) : ∃ b o c, v = .slice (some ⟨b, o, none⟩) l.length c ∧ l.length ≤ c ∧ b < w.heap.size ∧ ∀ i x, l[i]? = some x → ∀ w', Below w.heap.size w w' → UAt w' b (o + i * 4) x := by
  obtain ⟨h0, a, c, e, h1, h2, h3⟩ := h
  obtain ⟨b, o, rfl, hc⟩ := h3 hp
  refine ⟨b, o, c, e, h1, hc.1, fun i x hi w' hb => ?_⟩
  have := (hc.below hb).2
  have h4 := upsV_at l i x hi
  exact ⟨by have := this _ _ (h4 0 _ rfl); simpa using this, by rw [Nat.add_assoc]; exact this _ _ (h4 1 _ rfl), by rw [Nat.add_assoc]; exact this _ _ (h4 2 _ rfl), by rw [Nat.add_assoc]; exact this _ _ (h4 3 _ rfl)⟩
/-- Is a name among those of updates? -/
def hasN (nm : ByteArray) (l : List Up) : Bool := l.any (fun y => decide (y.nm = nm))
def idxU (nm : ByteArray) (l : List Up) : Int := match l.findIdx? (fun y => decide (y.nm = nm)) with
  | some i => (i : Int)
  | none => -1
theorem idxU_at {l : List Up} {i : Nat} {x : Up} {nm : ByteArray} (h : ∀ j y, j < i → l[j]? = some y → ¬ y.nm = nm) (hx : l[i]? = some x) (hw : x.nm = nm) : idxU nm l = (i : Int) := by
  have : l.findIdx? (fun y => decide (y.nm = nm)) = some i := by
    rw [List.findIdx?_eq_some_iff_getElem]
    obtain ⟨hi, rfl⟩ := List.getElem?_eq_some_iff.1 hx
    exact ⟨hi, decide_eq_true hw, fun j hj => by simp [h j _ hj (List.getElem?_eq_getElem (by omega))]⟩
  rw [idxU, this]
theorem idxU_none {l : List Up} {nm : ByteArray} (h : ∀ j y, j < l.length → l[j]? = some y → ¬ y.nm = nm) : idxU nm l = -1 := by
  have : l.findIdx? (fun y => decide (y.nm = nm)) = none := by
    rw [List.findIdx?_eq_none_iff]
    intro x hx
    obtain ⟨j, hj, rfl⟩ := List.getElem_of_mem hx
    simp [h j _ hj (List.getElem?_eq_getElem hj)]
  rw [idxU, this]
theorem idxU_any (nm : ByteArray) (l : List Up) : (hasN nm l = true ∧ ∃ i : Nat, idxU nm l = (i : Int)) ∨ (hasN nm l = false ∧ idxU nm l = -1) := by
  cases h : l.findIdx? (fun y => decide (y.nm = nm)) with
  | none =>
    refine .inr ⟨?_, by rw [idxU, h]⟩
    rw [List.findIdx?_eq_none_iff] at h
    rw [hasN, List.any_eq_false]
    intro x hx
    simp [h x hx]
  | some i =>
    refine .inl ⟨?_, i, by rw [idxU, h]⟩
    rw [List.findIdx?_eq_some_iff_getElem] at h
    obtain ⟨hi, h1, _⟩ := h
    rw [hasN, List.any_eq_true]
    exact ⟨l[i], List.getElem_mem hi, h1⟩
set_option maxHeartbeats 800000 in
set_option maxRecDepth 100000 in
theorem askq_any (x : Up) (nm : ByteArray) (B : Nat) (w : World) (hB : B < w.heap.size) (hc : w.cell? ⟨B, 0, none⟩ = some (.string nm)) :
    Calls Try.prog 57 #[upA x, .pointer (some ⟨B, 0, none⟩)] w fun e w' => e = .returned (.bool (decide (x.nm = nm))) ∧ Below w.heap.size w w' := by
  obtain ⟨a, b, c, f⟩ := x
  have hne : B ≠ w.heap.size := by omega
  have hd := tl_eq (a := a) (b := nm)
  have HD : Hid (decide ((Up.mk a b c f).nm = nm) = decide (a = nm)) := hideIt rfl
  rw [HD.out]
  generalize decide (a = nm) = d at hd ⊢
  unfold upA
  go_enter Try.func57, Try.ntmps57
  go_wp2
  go_ret
  exact ⟨rfl, (Below.refl _ _).alloc (Nat.le_refl _) _⟩
set_option maxHeartbeats 1600000 in
set_option maxRecDepth 100000 in
theorem indexU_any (v : Value) (l : List Up) (nm : ByteArray) (B : Nat) (w : World) (h : URow w v l) (hl : l.length ≤ 100000) (hB : B < w.heap.size) (hc : w.cell? ⟨B, 0, none⟩ = some (.string nm)) :
    Calls Try.prog 69 #[v, .func (.func 57) #[] #[.pointer (some ⟨B, 0, none⟩)]] w fun e w' => e = .returned (.int .i64 (idxU nm l)) ∧ Below w.heap.size w w' := by
  obtain ⟨n, hn⟩ : ∃ n, l.length = n := ⟨_, rfl⟩
  have HN := hideIt hn
  have nI : (n : Int) ≤ 100000 := by omega
  have HR : Hid (∀ i x, l[i]? = some x → ∀ w', Below w.heap.size w w' → ∃ b o c, v = .slice (some ⟨b, o, none⟩) n c ∧ UAt w' b (o + i * 4) x) := hideIt (fun i x hi w' hb => by
    have hil := (List.getElem?_eq_some_iff.1 hi).1
    obtain ⟨b, o, c, e, _, _, h3⟩ := h.cells (by omega)
    rw [hn] at e
    exact ⟨b, o, c, e, h3 i x hi w' hb⟩)
  have HQ : Hid (∀ (x : Up) w', Below w.heap.size w w' → Calls Try.prog 57 #[.agg #[.string x.nm, .string x.old, .string x.new, .bool x.force], .pointer (some ⟨B, 0, none⟩)] w' fun e w2 => e = .returned (.bool (decide (x.nm = nm))) ∧ Below w'.heap.size w' w2) := hideIt (fun x w' hb => askq_any x nm B w' (Nat.lt_of_lt_of_le hB hb.size) (by rw [hb.cell (p := ⟨B, 0, none⟩) hB]; exact hc))
  obtain ⟨p, hp⟩ : ∃ p, idxU nm l = p := ⟨_, rfl⟩
  have HP := hideIt hp
  rw [hp]
  obtain ⟨h0, a, c, hv, h1, h2, h3⟩ := h
  subst hv
  rw [hn] at HR h1 ⊢
  clear h0 h3 hp hn hc hl
  go_enter Try.func69, Try.ntmps69
  go_wp2
  go_loopw [8] (fun s8 wr => ∃ i : Nat, i ≤ n ∧ s8 = .int .i64 (i : Int) ∧ Below w.heap.size w wr ∧ (∀ j y, j < i → l[j]? = some y → ¬ y.nm = nm)) (fun s8 _ => n - (intOf s8).toNat)
  case atStart => exact ⟨0, by omega, rfl, Below.refl _ _, fun j y hj => by omega⟩
  case round =>
    obtain ⟨i, hi, rfl, hb, hpre⟩ := hrel
    have HB := hideIt hb
    have HPR := hideIt hpre
    clear hb hpre
    by_cases hlt : i < n
    · have i1 : (i : Int) < (n : Int) := by omega
      have i2 : decide ((i : Int) < (n : Int)) = true := decide_eq_true i1
      obtain ⟨x, hxi⟩ : ∃ x, l[i]? = some x := ⟨l[i]'(by rw [HN.out]; exact hlt), by simp⟩
      obtain ⟨b, o, c', e, c0, c1, c2, c3⟩ := HR.out i x hxi wr HB.out
      cases e
      have HXI := hideIt hxi
      have HA2 := hideIt (HQ.out x wr HB.out)
      obtain ⟨f, hf⟩ : ∃ f, decide (x.nm = nm) = f := ⟨_, rfl⟩
      rw [hf] at HA2
      have HF := hideIt hf
      clear hf hxi
      cases f
      · go_wp2_with (first | (go_at_call 57; refine HA2.out.mono ?_; rintro e w1 ⟨rfl, hb1⟩))
        go_roundw
        case rel =>
          refine ⟨i + 1, by omega, by go_num, below2 HB.out hb1, fun j y hj hy => ?_⟩
          rcases (by omega : j < i ∨ j = i) with h | h
          · exact HPR.out j y h hy
          · subst h
            rw [HXI.out] at hy
            cases hy
            exact of_decide_eq_false HF.out
        case measure => simp [intOf]; omega
      · go_wp2_with (first | (go_at_call 57; refine HA2.out.mono ?_; rintro e w1 ⟨rfl, hb1⟩))
        go_ret
        refine ⟨?_, below2 HB.out hb1⟩
        rw [← HP.out, idxU_at HPR.out HXI.out (of_decide_eq_true HF.out)]
        rfl
    · have i2 : decide ((i : Int) < (n : Int)) = false := decide_eq_false (by omega)
      obtain rfl : i = n := by omega
      have HZ : Hid (p = -1) := hideIt (by rw [← HP.out, idxU_none (fun j y hj hy => HPR.out j y (by rw [HN.out] at hj; exact hj) hy)])
      go_wp2
      go_ret
      exact ⟨by rw [HZ.out]; rfl, HB.out⟩
theorem containsU_any (v : Value) (l : List Up) (nm : ByteArray) (B : Nat) (w : World) (h : URow w v l) (hl : l.length ≤ 100000) (hB : B < w.heap.size) (hc : w.cell? ⟨B, 0, none⟩ = some (.string nm)) :
    Calls Try.prog 56 #[v, .func (.func 57) #[] #[.pointer (some ⟨B, 0, none⟩)]] w fun e w' => e = .returned (.bool (hasN nm l)) ∧ Below w.heap.size w w' := by
  have HI := hideIt (indexU_any v l nm B w h hl hB hc)
  rcases idxU_any nm l with ⟨h1, i, h2⟩ | ⟨h1, h2⟩
  · rw [h2] at HI
    rw [h1]
    have i1 : (0 : Int) ≤ (i : Int) := by omega
    have i2 : decide ((0 : Int) ≤ (i : Int)) = true := decide_eq_true i1
    clear h1 h2 h hc hB hl
    go_enter Try.func56, Try.ntmps56
    go_wp2_with (first | (go_at_call 69; refine HI.out.mono ?_; rintro e w1 ⟨rfl, hb1⟩))
    go_ret
    exact ⟨rfl, hb1⟩
  · rw [h2] at HI
    rw [h1]
    clear h1 h2 h hc hB hl
    go_enter Try.func56, Try.ntmps56
    go_wp2_with (first | (go_at_call 69; refine HI.out.mono ?_; rintro e w1 ⟨rfl, hb1⟩))
    go_ret
    exact ⟨rfl, hb1⟩
end Go.Proofs.Ytecdjejemohkgaa.Rf
