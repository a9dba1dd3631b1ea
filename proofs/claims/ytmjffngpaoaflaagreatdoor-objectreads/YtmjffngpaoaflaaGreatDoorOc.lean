/- Rows of texts in memory; a commit's parents and its author, walked. -/
import Derived.Test.YtmjffngpaoaflaaGreatDoorOu
import Derived.Test.YtmjffngpaoaflaaGreatDoorOa
import Derived.Test.YtmjffngpaoaflaaGreatDoorLbAll
namespace Go.Proofs.YtmjffngpaoaflaaGreatDoor
namespace Ob
open Go.RowKit Go.Shelf
/-- Texts that lie in memory one behind the other. -/
def SCells (w : World) (b o : Nat) (l : List ByteArray) : Prop := b < w.heap.size ∧ ∀ (i : Nat) (x : ByteArray), l[i]? = some x → w.cell? ⟨b, o + i, none⟩ = some (.string x)
def SRow (w : World) (v : Value) (l : List ByteArray) : Prop := ∃ a c, v = .slice a l.length c ∧ l.length ≤ c ∧ (c ≤ maxLen ∧ (a = none → c = 0)) ∧ (0 < l.length → ∃ b o, a = some ⟨b, o, none⟩ ∧ SCells w b o l)
theorem SCells.below {w w' : World} {b o : Nat} {l : List ByteArray} (h : SCells w b o l) (hb : Below w.heap.size w w') : SCells w' b o l :=
  ⟨Nat.lt_of_lt_of_le h.1 hb.size, fun i x hx => by rw [hb.cell (p := ⟨b, o + i, none⟩) h.1]; exact h.2 i x hx⟩
theorem SRow.below {w w' : World} {v : Value} {l : List ByteArray} (h : SRow w v l) (hb : Below w.heap.size w w') : SRow w' v l := by
  obtain ⟨a, c, h1, h2, h3, h4⟩ := h
  refine ⟨a, c, h1, h2, h3, fun h0 => ?_⟩
  obtain ⟨b, o, e, hc⟩ := h4 h0
  exact ⟨b, o, e, hc.below hb⟩
theorem SRow.take {w : World} {a : Option Addr} {c : Nat} {l : List ByteArray} (i : Nat) (hi : i ≤ l.length) (h : SRow w (.slice a l.length c) l) : SRow w (.slice a i c) (l.take i) := by
  obtain ⟨a', c', h1, h2, h3, h4⟩ := h
  simp only [Value.slice.injEq, true_and] at h1
  obtain ⟨rfl, rfl⟩ := h1
  have hl : (l.take i).length = i := by rw [List.length_take]; omega
  refine ⟨a, c, by rw [hl], by omega, h3, fun h0 => ?_⟩
  obtain ⟨b, o, e, hc⟩ := h4 (by omega)
  refine ⟨b, o, e, hc.1, fun j x hx => hc.2 j x ?_⟩
  rw [List.getElem?_take] at hx
  split at hx
  · exact hx
  · cases hx
theorem bytes_eq (x y : ByteArray) : (x.toList == y.toList) = decide (x = y) := by
  rw [ByteArray.toList_eq, ByteArray.toList_eq]
  by_cases h : x = y
  · rw [h]; simp
  · have : x.data.toList ≠ y.data.toList := fun e => h (by rw [← bs_data x, e, bs_data])
    rw [decide_eq_false h]; simpa using this
/-- Does a text stand among others? -/
def memB (x : ByteArray) (l : List ByteArray) : Bool := l.any fun y => x.toList == y.toList
theorem memB_iff (x : ByteArray) (l : List ByteArray) : memB x l = true ↔ x ∈ l := by
  unfold memB
  rw [List.any_eq_true]
  constructor
  · rintro ⟨y, hy, e⟩
    rw [bytes_eq, decide_eq_true_eq] at e
    rw [e]; exact hy
  · intro h
    exact ⟨x, h, by simp⟩
theorem memB_not {x : ByteArray} {l : List ByteArray} (h : x ∉ l) : memB x l = false := by
  cases e : memB x l with
  | false => rfl
  | true => exact absurd ((memB_iff x l).1 e) h
set_option maxHeartbeats 800000 in
set_option maxRecDepth 100000 in
theorem index_any (v : Value) (l : List ByteArray) (x : ByteArray) (w : World) (h : SRow w v l) :
    Calls Tryz.prog 90 #[v, .string x] w fun e w' => ∃ k : Int, e = .returned (.int .i64 k) ∧ (0 ≤ k ↔ x ∈ l) ∧ w = w' := by
  obtain ⟨a, c, rfl, hlc, hcm, hrow⟩ := h
  have HR := hideIt hrow
  obtain ⟨n, hn⟩ : ∃ n, l.length = n := ⟨_, rfl⟩
  rw [hn] at hlc ⊢
  have HN := hideIt hn
  have hcm1 := hcm.1
  unfold maxLen at hcm1
  clear hrow
  go_enter Tryz.func90, Tryz.ntmps90
  go_wp2
  go_loopw [8] (fun t wr => ∃ i : Nat, i ≤ n ∧ t = .int .i64 i ∧ (∀ j, j < i → l[j]? ≠ some x) ∧ w = wr) (fun t _ => n - (intOf t).toNat)
  case atStart => exact ⟨0, by omega, rfl, fun j hj => by omega, rfl⟩
  case round =>
    obtain ⟨i, hi, rfl, hne, rfl⟩ := hrel
    have HNE := hideIt hne
    clear hne
    by_cases hlt : i < n
    · have i1 : decide ((i : Int) < (n : Int)) = true := decide_eq_true (by omega)
      have i2 : (i : Int) < (n : Int) := by omega
      obtain ⟨b, o, rfl, hcells⟩ := HR.out (by rw [HN.out]; omega)
      obtain ⟨y, hyi⟩ : ∃ y, l[i]? = some y := ⟨l[i]'(by rw [HN.out]; exact hlt), by simp⟩
      have c0 := hcells.2 i y hyi
      have HY := hideIt hyi
      clear hcells hyi
      by_cases hxy : x = y
      · have e1 : (x.toList == y.toList) = true := by rw [bytes_eq, decide_eq_true hxy]
        go_wp2
        go_ret
        refine ⟨(i : Int), rfl, ⟨fun _ => ?_, fun _ => by omega⟩, rfl⟩
        rw [hxy]
        exact List.mem_of_getElem? HY.out
      · have e1 : (x.toList == y.toList) = false := by rw [bytes_eq, decide_eq_false hxy]
        go_wp2
        go_roundw
        case rel =>
          refine ⟨i + 1, by omega, by go_num, fun j hj => ?_, by trivial⟩
          rcases (by omega : j < i ∨ j = i) with h' | rfl
          · exact HNE.out j h'
          · rw [HY.out]; simp; exact fun e => hxy e.symm
        case measure => simp [intOf]; omega
    · have i1 : decide ((i : Int) < (n : Int)) = false := decide_eq_false (by omega)
      obtain rfl : i = n := by omega
      go_wp2
      go_ret
      refine ⟨-1, rfl, ⟨fun h => by omega, fun h => ?_⟩, rfl⟩
      obtain ⟨j, hj⟩ := List.mem_iff_getElem?.1 h
      have hjl : j < l.length := (List.getElem?_eq_some_iff.1 hj).1
      exact absurd hj (HNE.out j (by rw [HN.out] at hjl; exact hjl))
set_option maxHeartbeats 400000 in
theorem contains_any (v : Value) (l : List ByteArray) (x : ByteArray) (w : World) (h : SRow w v l) :
    Calls Tryz.prog 70 #[v, .string x] w fun e w' => e = .returned (.bool (memB x l)) ∧ w = w' := by
  have H := hideIt (index_any v l x w h)
  obtain ⟨a, c, rfl, -, -, -⟩ := h
  by_cases hx : x ∈ l
  · rw [(memB_iff x l).2 hx]
    go_enter Tryz.func70, Tryz.ntmps70
    go_wp2_with (first | (go_at_call 90; refine H.out.mono ?_; rintro e w1 ⟨k, rfl, hk, rfl⟩; have k1 : 0 ≤ k := hk.2 hx))
    go_ret
    exact ⟨by simp, rfl⟩
  · rw [memB_not hx]
    go_enter Tryz.func70, Tryz.ntmps70
    go_wp2_with (first | (go_at_call 90; refine H.out.mono ?_; rintro e w1 ⟨k, rfl, hk, rfl⟩; have k1 : ¬ 0 ≤ k := fun h => hx (hk.1 h)))
    go_ret
    exact ⟨by simp, rfl⟩
/-- Are all ids, each there once? -/
def parF (l : List ByteArray) (i : Nat) : Bool := (List.range i).all fun j => idB (l.getD j ⟨#[]⟩) && !memB (l.getD j ⟨#[]⟩) (l.take j)
def parB (l : List ByteArray) : Bool := parF l l.length
theorem parF_succ (l : List ByteArray) (i : Nat) (y : ByteArray) (h : l[i]? = some y) : parF l (i + 1) = (parF l i && (idB y && !memB y (l.take i))) := by
  unfold parF
  rw [List.range_succ, List.all_append]
  simp only [List.all_cons, List.all_nil, Bool.and_true]
  rw [List.getD_eq_getElem?_getD, h]
  rfl
theorem parF_le (l : List ByteArray) (i k : Nat) (hik : i ≤ k) (h : parF l k = true) : parF l i = true := by
  unfold parF at h ⊢
  rw [List.all_eq_true] at h ⊢
  intro j hj
  exact h j (List.mem_range.2 (by have := List.mem_range.1 hj; omega))
set_option maxHeartbeats 800000 in
set_option maxRecDepth 100000 in
theorem mayBeParents_any (v : Value) (l : List ByteArray) (w : World) (h : SRow w v l) :
    Calls Tryz.prog 41 #[v] w fun e w' => e = .returned (.bool (parB l)) ∧ w = w' := by
  have HROW := hideIt h
  obtain ⟨a, c, rfl, hlc, hcm, hrow⟩ := h
  have HR := hideIt hrow
  have HP : Hid (parB l = parF l l.length) := rfl
  obtain ⟨n, hn⟩ : ∃ n, l.length = n := ⟨_, rfl⟩
  rw [hn] at hlc HP HROW ⊢
  have HN := hideIt hn
  have hcm1 := hcm.1
  unfold maxLen at hcm1
  clear hrow
  go_enter Tryz.func41, Tryz.ntmps41
  go_wp2
  go_loopw [7] (fun t wr => ∃ i : Nat, i ≤ n ∧ t = .int .i64 i ∧ parF l i = true ∧ w = wr) (fun t _ => n - (intOf t).toNat)
  case atStart => exact ⟨0, by omega, rfl, rfl, rfl⟩
  case round =>
    obtain ⟨i, hi, rfl, hpar, rfl⟩ := hrel
    have HPA := hideIt hpar
    clear hpar
    by_cases hlt : i < n
    · have i1 : decide ((i : Int) < (n : Int)) = true := decide_eq_true (by omega)
      have i2 : (i : Int) < (n : Int) := by omega
      obtain ⟨b, o, rfl, hcells⟩ := HR.out (by rw [HN.out]; omega)
      obtain ⟨y, hyi⟩ : ∃ y, l[i]? = some y := ⟨l[i]'(by rw [HN.out]; exact hlt), by simp⟩
      have c0 := hcells.2 i y hyi
      have HS := hideIt (parF_succ l i y hyi)
      have HI : Hid (∀ w, Calls Tryz.prog 40 #[.string y] w fun e w' => e = .returned (.bool (idB y)) ∧ w = w') := hideIt (fun w => (mayBeID_any y w).mono fun _ _ h => ⟨h.1, h.2.symm⟩)
      have HCO := hideIt (contains_any (.slice (some ⟨b, o, none⟩) i c) (l.take i) y w (SRow.take i (by rw [HN.out]; omega) (by rw [HN.out]; exact HROW.out)))
      obtain ⟨p, hp⟩ : ∃ p, idB y = p := ⟨_, rfl⟩
      obtain ⟨q, hq⟩ : ∃ q, memB y (l.take i) = q := ⟨_, rfl⟩
      rw [hp] at HI HS
      rw [hq] at HCO HS
      have hic : (i : Int) ≤ (c : Int) := by omega
      clear hcells hyi hp hq
      have HF : Hid (parF l (i + 1) = false → parB l = false) := hideIt (fun e => by
        cases hb : parB l with
        | false => rfl
        | true =>
          rw [HP.out] at hb
          rw [parF_le l (i + 1) n (by omega) hb] at e
          cases e)
      cases p with
      | false =>
        have HE := hideIt (HF.out (by rw [HS.out]; simp))
        go_wp2_with (first | (go_at_call 40; refine (HI.out _).mono ?_; rintro e w1 ⟨rfl, rfl⟩) | (go_at_call 70; refine HCO.out.mono ?_; rintro e w1 ⟨rfl, rfl⟩))
        go_ret
        exact ⟨by rw [HE.out] <;> rfl, rfl⟩
      | true =>
        cases q with
        | true =>
          have HE := hideIt (HF.out (by rw [HS.out]; simp))
          go_wp2_with (first | (go_at_call 40; refine (HI.out _).mono ?_; rintro e w1 ⟨rfl, rfl⟩) | (go_at_call 70; refine HCO.out.mono ?_; rintro e w1 ⟨rfl, rfl⟩))
          go_ret
          exact ⟨by rw [HE.out] <;> rfl, rfl⟩
        | false =>
          go_wp2_with (first | (go_at_call 40; refine (HI.out _).mono ?_; rintro e w1 ⟨rfl, rfl⟩) | (go_at_call 70; refine HCO.out.mono ?_; rintro e w1 ⟨rfl, rfl⟩))
          go_roundw
          case rel => exact ⟨i + 1, by omega, by go_num, by rw [HS.out, HPA.out]; rfl, by trivial⟩
          case measure => simp [intOf]; omega
    · have i1 : decide ((i : Int) < (n : Int)) = false := decide_eq_false (by omega)
      obtain rfl : i = n := by omega
      go_wp2
      go_ret
      exact ⟨by rw [HP.out, HPA.out] <;> rfl, rfl⟩
set_option maxHeartbeats 400000 in
theorem mayBeAuthor_any (s : ByteArray) (w : World) (hs : s.size ≤ 1000000) (hm : MaxAt w) :
    Calls Tryz.prog 42 #[.string s] w fun e w' => e = .returned (.bool (autB s)) ∧ Below w.heap.size w w' := by
  obtain ⟨m, hm⟩ := hm
  have hcnt : Lib.countB s ⟨#[47]⟩ ≤ 1000001 := by
    have := Lib.count_le s.data.toList [47]
    rw [str_len] at this
    exact Nat.le_trans this (by omega)
  have HR : Hid (Calls Tryz.prog 72 #[.string s, .string ⟨#[47]⟩, .string ⟨#[120]⟩] w fun e w' => e = .returned (.string (bs (rpL 120 s.data.toList))) ∧ Below w.heap.size w w') := hideIt (by
    have h := Tryz.strings_ReplaceAll s ⟨#[47]⟩ ⟨#[120]⟩ m w (by omega) hm (by decide) (by
      have e : (ByteArray.mk #[120]).size = 1 := rfl
      rw [e]; omega)
    rw [show (ByteArray.mk #[47]).data.toList = [47] from rfl, show (ByteArray.mk #[120]).data.toList = [120] from rfl, replaceAll_rp 120 (by decide)] at h
    exact h)
  have HN : Hid (∀ w, Calls Tryz.prog 71 #[.string (bs (rpL 120 s.data.toList))] w fun e w' => e = .returned (.bool (autB s)) ∧ Below w.heap.size w w') := hideIt (fun w => name_any _ w)
  clear hm hcnt
  go_enter Tryz.func42, Tryz.ntmps42
  go_wp2_with (first | (go_at_call 72; refine HR.out.mono ?_; rintro e w1 ⟨rfl, hb1⟩) | (go_at_call 71; refine (HN.out _).mono ?_; rintro e w2 ⟨rfl, hb2⟩))
  go_ret
  exact ⟨rfl, below2 hb1 hb2⟩
end Ob
end Go.Proofs.YtmjffngpaoaflaaGreatDoor
