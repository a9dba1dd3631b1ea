/- Indexes: is a spot wrong; does an id stand twice; how two spots compare: walked. -/
import Derived.Test.YtllpfpbpdgpnkaaDoorIxXm
namespace Go.Proofs.YtllpfpbpdgpnkaaDoor.Ix
open Cb Go.RowKit Go.Shelf
def idxF (l : List Sp) : Int := match l.findIdx? wrong with
  | some i => (i : Int)
  | none => -1
theorem idxF_at {l : List Sp} {i : Nat} {x : Sp} (h : ∀ j y, j < i → l[j]? = some y → wrong y = false) (hx : l[i]? = some x) (hw : wrong x = true) : idxF l = (i : Int) := by
  have : l.findIdx? wrong = some i := by
    rw [List.findIdx?_eq_some_iff_getElem]
    obtain ⟨hi, rfl⟩ := List.getElem?_eq_some_iff.1 hx
    exact ⟨hi, hw, fun j hj => by simp [h j _ hj (List.getElem?_eq_getElem (by omega))]⟩
  rw [idxF, this]
theorem idxF_none {l : List Sp} (h : ∀ j y, j < l.length → l[j]? = some y → wrong y = false) : idxF l = -1 := by
  have : l.findIdx? wrong = none := by
    rw [List.findIdx?_eq_none_iff]
    intro x hx
    obtain ⟨j, hj⟩ := List.mem_iff_getElem?.1 hx
    exact h j x (List.getElem?_eq_some_iff.1 hj).1 hj
  rw [idxF, this]
theorem idxF_any (l : List Sp) : (l.any wrong = true ∧ ∃ i : Nat, idxF l = (i : Int)) ∨ (l.any wrong = false ∧ idxF l = -1) := by
  unfold idxF
  cases h : l.findIdx? wrong with
  | some i =>
    refine .inl ⟨?_, i, rfl⟩
    obtain ⟨hi, hw, _⟩ := List.findIdx?_eq_some_iff_getElem.1 h
    exact List.any_eq_true.2 ⟨_, List.getElem_mem hi, hw⟩
  | none =>
    refine .inr ⟨?_, rfl⟩
    rw [List.any_eq_false]
    intro x hx
    rw [List.findIdx?_eq_none_iff.1 h x hx]
    simp
set_option maxHeartbeats 1600000 in
set_option maxRecDepth 100000 in
theorem indexFunc_any (v : Value) (l : List Sp) (w : World) (h : SRow w v l) :
    Calls Tryd.prog 37 #[v, .func (.func 20) #[] #[]] w fun e w' => e = .returned (.int .i64 (idxF l)) ∧ Below w.heap.size w w' := by
  obtain ⟨a, c, rfl, hlc, ⟨hcm, hnn⟩, hrow⟩ := h
  unfold maxLen at hcm
  have HR := hideIt hrow
  have HA := hideIt wrong_any
  obtain ⟨p, hp⟩ : ∃ p, idxF l = p := ⟨_, rfl⟩
  rw [hp]
  have HP := hideIt hp
  obtain ⟨n, hn⟩ : ∃ n, l.length = n := ⟨_, rfl⟩
  rw [hn] at hlc HR ⊢
  have HN := hideIt hn
  clear hn hrow hp hnn
  go_enter Tryd.func37, Tryd.ntmps37
  go_wp2
  go_loopw [8] (fun s8 wr => ∃ i : Nat, i ≤ n ∧ s8 = .int .i64 (i : Int) ∧ Below w.heap.size w wr ∧ (∀ j y, j < i → l[j]? = some y → wrong y = false)) (fun s8 _ => n - (intOf s8).toNat)
  case atStart => exact ⟨0, by omega, rfl, Below.refl _ _, fun j y hj => by omega⟩
  case round =>
    obtain ⟨i, hi, rfl, hb, hpre⟩ := hrel
    have HB := hideIt hb
    have HPR := hideIt hpre
    clear hb hpre
    by_cases hlt : i < n
    · have i1 : (i : Int) < (n : Int) := by omega
      have i2 : decide ((i : Int) < (n : Int)) = true := decide_eq_true i1
      obtain ⟨b, o, rfl, hcells⟩ := HR.out (by omega)
      obtain ⟨x, hxi⟩ : ∃ x, l[i]? = some x := ⟨l[i]'(by rw [HN.out]; exact hlt), by simp⟩
      obtain ⟨c0, c1⟩ := (hcells.below HB.out).2 i x hxi
      have HXI := hideIt hxi
      have HA2 := hideIt (HA.out x)
      obtain ⟨f, hf⟩ : ∃ f, wrong x = f := ⟨_, rfl⟩
      rw [hf] at HA2
      have HF := hideIt hf
      clear hf hxi hcells
      cases f
      · go_wp2_with (first | (go_at_call 20; refine (HA2.out _).mono ?_; rintro e w1 ⟨rfl, hb1⟩))
        go_roundw
        case rel =>
          refine ⟨i + 1, by omega, by go_num, below2 HB.out hb1, fun j y hj hy => ?_⟩
          rcases (by omega : j < i ∨ j = i) with h | h
          · exact HPR.out j y h hy
          · subst h
            rw [HXI.out] at hy
            cases hy
            exact HF.out
        case measure => simp [intOf]; omega
      · go_wp2_with (first | (go_at_call 20; refine (HA2.out _).mono ?_; rintro e w1 ⟨rfl, hb1⟩))
        go_ret
        refine ⟨?_, below2 HB.out hb1⟩
        rw [← HP.out, idxF_at HPR.out HXI.out HF.out]
        rfl
    · have i2 : decide ((i : Int) < (n : Int)) = false := decide_eq_false (by omega)
      obtain rfl : i = n := by omega
      have HZ : Hid (p = -1) := hideIt (by rw [← HP.out]; exact idxF_none (fun j y hj hy => HPR.out j y (by rw [HN.out] at hj; exact hj) hy))
      go_wp2
      go_ret
      exact ⟨by rw [HZ.out]; rfl, HB.out⟩
set_option maxHeartbeats 800000 in
set_option maxRecDepth 100000 in
theorem containsFunc_any (v : Value) (l : List Sp) (w : World) (h : SRow w v l) :
    Calls Tryd.prog 19 #[v, .func (.func 20) #[] #[]] w fun e w' => e = .returned (.bool (l.any wrong)) ∧ Below w.heap.size w w' := by
  have HI := hideIt (indexFunc_any v l w h)
  rcases idxF_any l with ⟨h1, i, h2⟩ | ⟨h1, h2⟩
  · rw [h2] at HI
    rw [h1]
    have i1 : (0 : Int) ≤ (i : Int) := by omega
    have i2 : decide ((0 : Int) ≤ (i : Int)) = true := decide_eq_true i1
    clear h1 h2 h
    go_enter Tryd.func19, Tryd.ntmps19
    go_wp2_with (first | (go_at_call 37; refine HI.out.mono ?_; rintro e w1 ⟨rfl, hb1⟩))
    go_ret
    exact ⟨rfl, hb1⟩
  · rw [h2] at HI
    rw [h1]
    clear h1 h2 h
    go_enter Tryd.func19, Tryd.ntmps19
    go_wp2_with (first | (go_at_call 37; refine HI.out.mono ?_; rintro e w1 ⟨rfl, hb1⟩))
    go_ret
    exact ⟨rfl, hb1⟩
/-- How far it was seen that no id stands twice. -/
theorem twice_at : ∀ {l : List Sp} {i : Nat} {x y : Sp}, l[i]? = some x → l[i + 1]? = some y → x.d = y.d → twiceL l = true
  | [], i, x, y, h, _, _ => by simp at h
  | [a], i, x, y, _, h, _ => by simp at h
  | a :: b :: r, 0, x, y, h1, h2, e => by
    simp at h1 h2
    subst h1 h2
    simp [twiceL, e]
  | a :: b :: r, i + 1, x, y, h1, h2, e => by
    have := twice_at (l := b :: r) (i := i) (x := x) (y := y) (by simpa using h1) (by simpa using h2) e
    simp [twiceL, this]
theorem twice_no : ∀ {l : List Sp}, (∀ i x y, l[i]? = some x → l[i + 1]? = some y → ¬ x.d = y.d) → twiceL l = false
  | [], _ => rfl
  | [a], _ => rfl
  | a :: b :: r, h => by
    have h0 := h 0 a b rfl rfl
    have := twice_no (l := b :: r) (fun i x y h1 h2 => h (i + 1) x y (by simpa using h1) (by simpa using h2))
    simp [twiceL, h0, this]
theorem below_drewN (w : World) (q : Nat) : Below w.heap.size w (w.drewN q) := ⟨rfl, rfl, rfl, Nat.le_refl _, fun _ _ => rfl⟩
theorem tl_ne {a b : ByteArray} (h : ¬ a = b) : (a.toList == b.toList) = false ∧ ¬ a.toList = b.toList := by
  have : ¬ a.toList = b.toList := fun e => h (bytes_ext (by rwa [ByteArray.toList_eq, ByteArray.toList_eq] at e))
  exact ⟨beq_eq_false_iff_ne.2 this, this⟩
set_option maxHeartbeats 1600000 in
set_option maxRecDepth 100000 in
theorem twice_any (v : Value) (l : List Sp) (w : World) (h : SRow w v l) (hn1 : l.length ≤ 1000000) :
    Calls Tryd.prog 22 #[v] w fun e w' => e = .returned (.bool (twiceL l)) ∧ Below w.heap.size w w' := by
  obtain ⟨a, c, rfl, hlc, ⟨hcm, hnn⟩, hrow⟩ := h
  have HR := hideIt hrow
  obtain ⟨p, hp⟩ : ∃ p, twiceL l = p := ⟨_, rfl⟩
  rw [hp]
  have HP := hideIt hp
  obtain ⟨n, hn⟩ : ∃ n, l.length = n := ⟨_, rfl⟩
  rw [hn] at hlc HR hn1 ⊢
  have HN := hideIt hn
  clear hn hrow hp hnn hcm
  go_enter Tryd.func22, Tryd.ntmps22
  go_wp2
  go_loopw [3] (fun s3 wr => ∃ i : Nat, i ≤ n ∧ s3 = .int .i64 ((i + 1 : Nat) : Int) ∧ Below w.heap.size w wr ∧ (∀ j x y, j < i → l[j]? = some x → l[j + 1]? = some y → ¬ x.d = y.d)) (fun s3 _ => n + 1 - (intOf s3).toNat)
  case atStart => exact ⟨0, by omega, rfl, Below.refl _ _, fun j x y hj => by omega⟩
  case round =>
    obtain ⟨i, hi, rfl, hb, hpre⟩ := hrel
    have HB := hideIt hb
    have HPR := hideIt hpre
    obtain ⟨k, hk⟩ : ∃ k, i + 1 = k := ⟨_, rfl⟩
    have HK := hideIt hk
    have k1 : (k : Int) - 1 = (i : Int) := by omega
    have k9 : (k : Int) ≤ 1000001 := by omega
    rw [hk]
    clear hb hpre
    by_cases hlt : k < n
    · have i1 : (k : Int) < (n : Int) := by omega
      have i2 : decide ((k : Int) < (n : Int)) = true := decide_eq_true i1
      have i3 : (i : Int) < (n : Int) := by omega
      obtain ⟨b, o, rfl, hcells⟩ := HR.out (by omega)
      obtain ⟨x, hxi⟩ : ∃ x, l[i]? = some x := ⟨l[i]'(by rw [HN.out]; omega), by simp⟩
      obtain ⟨y, hyi⟩ : ∃ y, l[k]? = some y := ⟨l[k]'(by rw [HN.out]; omega), by simp⟩
      obtain ⟨c0, c1⟩ := (hcells.below HB.out).2 i x hxi
      obtain ⟨d0, d1⟩ := (hcells.below HB.out).2 k y hyi
      have HX := hideIt (And.intro hxi hyi)
      clear hxi hyi hcells hk
      by_cases he : x.d = y.d
      · have e1 : (x.d.toList == y.d.toList) = true := by rw [he]; simp
        have e2 : x.d.toList = y.d.toList := by rw [he]
        have HT : Hid (p = true) := hideIt (by rw [← HP.out]; exact twice_at HX.out.1 (by rw [HK.out]; exact HX.out.2) he)
        clear he
        go_wp2
        go_quiet (fail)
        go_wp2
        go_ret
        exact ⟨by rw [HT.out]; rfl, below2 HB.out (below_drewN _ _)⟩
      · obtain ⟨e1, e2⟩ := tl_ne he
        have HE := hideIt he
        clear he
        go_wp2
        go_quiet (fail)
        go_wp2
        go_roundw
        case rel =>
          refine ⟨i + 1, by omega, by rw [HK.out]; go_num, below2 HB.out (below_drewN _ _), fun j x' y' hj hx' hy' => ?_⟩
          rcases (by omega : j < i ∨ j = i) with h | h
          · exact HPR.out j x' y' h hx' hy'
          · subst h
            rw [HX.out.1] at hx'
            rw [HK.out, HX.out.2] at hy'
            cases hx'
            cases hy'
            exact HE.out
        case measure => simp [intOf]; omega
    · have i2 : decide ((k : Int) < (n : Int)) = false := decide_eq_false (by omega)
      have i3 : ¬ (k : Int) < (n : Int) := by omega
      have HZ : Hid (p = false) := hideIt (by
        rw [← HP.out]
        refine twice_no (fun j x y h1 h2 => HPR.out j x y ?_ h1 h2)
        have := (List.getElem?_eq_some_iff.1 h2).1
        rw [HN.out] at this
        omega)
      clear hk
      go_wp2
      go_ret
      exact ⟨by rw [HZ.out]; rfl, HB.out⟩
end Go.Proofs.YtllpfpbpdgpnkaaDoor.Ix
