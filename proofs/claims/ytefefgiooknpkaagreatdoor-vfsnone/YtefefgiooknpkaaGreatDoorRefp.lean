/- Which texts may be paths, as the document's copy says it, walked. -/
import Derived.Test.YtefefgiooknpkaaGreatDoorKit
namespace Go.Proofs.YtefefgiooknpkaaGreatDoor
open Go.RowKit
def segL (l : List UInt8) (a k : Nat) : List UInt8 := (l.drop a).take (k - a)
theorem seg_next (l : List UInt8) (a k : Nat) (h : a ≤ k) (hk : k < l.length) : segL l a (k + 1) = segL l a k ++ [l[k]] := by
  unfold segL
  rw [show k + 1 - a = (k - a) + 1 by omega, List.take_add_one, List.getElem?_drop, show a + (k - a) = k by omega, List.getElem?_eq_getElem hk]
  rfl
theorem seg_self (l : List UInt8) (k : Nat) : segL l k k = [] := by simp [segL]
theorem scan_slash (acc r : List UInt8) : scan acc (47 :: r) = (okSeg acc && scan [] r) := by simp [scan]
theorem scan_byte (acc r : List UInt8) (c : UInt8) (h : c ≠ 47) : scan acc (c :: r) = (okB c && scan (acc ++ [c]) r) := by simp [scan, h]
theorem extract_list (s : ByteArray) (a k : Nat) : (s.extract a k).data.toList = segL s.data.toList a k := by
  rw [ByteArray.data_extract]; simp [segL, List.extract_eq_take_drop]
structure PathRel (l : List UInt8) (n a k : Nat) : Prop where
  le : k ≤ n + 1
  go : k ≤ n → a ≤ k ∧ scan (segL l a k) (l.drop k) = scan [] l
  fin : k = n + 1 → scan [] l = true
theorem PathRel.start (l : List UInt8) (n : Nat) : PathRel l n 0 0 := ⟨by omega, fun _ => ⟨Nat.le_refl _, by simp [segL]⟩, fun h => by omega⟩
theorem okB_of {c : UInt8} {a b d e f g h : Bool} (H : Cmp (c.toNat : Int) a b d e f g h) : okB c = (((((a && b) || (d && e)) || f) || g) || h) := by
  obtain ⟨h1, h2, h3, h4, h5, h6, h7⟩ := H
  subst h1 h2 h3 h4 h5 h6 h7
  unfold okB
  have e1 : ∀ n : Nat, ((c.toNat : Int) == (n : Int)) = decide (c.toNat = n) := by intro n; by_cases hh : c.toNat = n <;> simp [hh] <;> omega
  have e46 := e1 46
  have e45 := e1 45
  have e95 := e1 95
  simp only [Int.cast_ofNat_Int] at e46 e45 e95
  rw [e46, e45, e95]
  congr 1
  congr 1
  congr 1
  congr 1
  · congr 1 <;> (apply decide_eq_decide.2; omega)
  · congr 1 <;> (apply decide_eq_decide.2; omega)
theorem PathRel.bad {l : List UInt8} {n a k : Nat} (h : PathRel l n a k) (hl : l.length = n) (hk : k < n) {c : UInt8} (hc : l[k]? = some c) (h47 : c ≠ 47) (hb : okB c = false) : scan [] l = false := by
  obtain ⟨_, e⟩ := h.go (by omega)
  rw [← e, List.drop_eq_getElem_cons (by omega)]
  have : l[k]'(by omega) = c := by rw [List.getElem?_eq_getElem (by omega)] at hc; exact Option.some.inj hc
  rw [this, scan_byte _ _ _ h47, hb, Bool.false_and]
theorem PathRel.byte {l : List UInt8} {n a k : Nat} (h : PathRel l n a k) (hl : l.length = n) (hk : k < n) {c : UInt8} (hc : l[k]? = some c) (h47 : c ≠ 47) (hb : okB c = true) : PathRel l n a (k + 1) := by
  obtain ⟨ha, e⟩ := h.go (by omega)
  have hg : l[k]'(by omega) = c := by rw [List.getElem?_eq_getElem (by omega)] at hc; exact Option.some.inj hc
  refine ⟨by omega, fun _ => ⟨by omega, ?_⟩, fun hh => by omega⟩
  rw [seg_next l a k ha (by omega), hg, ← e, List.drop_eq_getElem_cons (by omega : k < l.length), hg, scan_byte _ _ _ h47, hb, Bool.true_and]
theorem PathRel.seg {l : List UInt8} {n a k : Nat} (h : PathRel l n a k) (hl : l.length = n) (hk : k < n) (hc : l[k]? = some 47) : scan [] l = (okSeg (segL l a k) && scan [] (l.drop (k + 1))) := by
  obtain ⟨_, e⟩ := h.go (by omega)
  have hg : l[k]'(by omega) = 47 := by rw [List.getElem?_eq_getElem (by omega)] at hc; exact Option.some.inj hc
  rw [← e, List.drop_eq_getElem_cons (by omega : k < l.length), hg, scan_slash]
theorem PathRel.slash {l : List UInt8} {n a k : Nat} (h : PathRel l n a k) (hl : l.length = n) (hk : k < n) (hc : l[k]? = some 47) (hb : okSeg (segL l a k) = true) : PathRel l n (k + 1) (k + 1) := by
  have e := h.seg hl hk hc
  rw [hb, Bool.true_and] at e
  exact ⟨by omega, fun _ => ⟨Nat.le_refl _, by rw [seg_self, e]⟩, fun hh => by omega⟩
theorem PathRel.last {l : List UInt8} {n a : Nat} (h : PathRel l n a n) (hl : l.length = n) : scan [] l = okSeg (segL l a n) := by
  obtain ⟨_, e⟩ := h.go (by omega)
  rw [← e, List.drop_of_length_le (by omega)]
  rfl
theorem PathRel.done {l : List UInt8} {n a b : Nat} (h : PathRel l n a n) (hl : l.length = n) (hb : okSeg (segL l a n) = true) : PathRel l n b (n + 1) :=
  ⟨Nat.le_refl _, fun hh => by omega, fun _ => by rw [h.last hl, hb]⟩
/-- What a name must not be, as the walk asks it. -/
structure SegCmp (s : ByteArray) (a b c : Bool) : Prop where
  a1 : (s.toList == []) = a
  a2 : s.toList.isEmpty = a
  b1 : (s.toList == [46]) = b
  c1 : (s.toList == [46, 46]) = c
theorem seg_cmp (s : ByteArray) : SegCmp s (s.data.toList == []) (s.data.toList == [46]) (s.data.toList == [46, 46]) := by
  refine ⟨by rw [ByteArray.toList_eq], ?_, by rw [ByteArray.toList_eq], by rw [ByteArray.toList_eq]⟩
  rw [ByteArray.toList_eq]
  cases s.data.toList <;> rfl
theorem okSeg_of (l : List UInt8) {a b c : Bool} (ha : (l == []) = a) (hb : (l == [46]) = b) (hc : (l == [46, 46]) = c) : okSeg l = !((a || b) || c) := by subst ha hb hc; rfl
theorem at_list (p : ByteArray) (k : Nat) (h : k < p.size) : p.data.toList[k]? = some p[k] := by
  rw [List.getElem?_eq_getElem (by rw [str_len]; exact h)]
  rfl
set_option maxHeartbeats 1600000 in
set_option maxRecDepth 100000 in
theorem refpath_any (p : ByteArray) (w : World) (hs : p.size ≤ 140737488355328) :
    Calls Tryz.prog 68 #[.string p] w fun e w' => e = .returned (.bool (pathL p.data.toList)) ∧ w' = w := by
  obtain ⟨n, hn⟩ : ∃ n, p.size = n := ⟨_, rfl⟩
  have hs' : n ≤ 140737488355328 := by omega
  have hni : (p.size : Int) = (n : Int) := by rw [hn]
  have hl : p.data.toList.length = n := by rw [str_len, hn]
  go_enter Tryz.func68, Tryz.ntmps68
  go_wp2
  go_loop [3, 4] (fun v t => ∃ a k : Nat, v = .int .i64 a ∧ t = .int .i64 k ∧ PathRel p.data.toList n a k) (fun _ t => n + 1 - (intOf t).toNat)
  case atStart => exact ⟨0, 0, rfl, rfl, PathRel.start _ _⟩
  case round =>
    obtain ⟨a, k, rfl, rfl, hr⟩ := hrel
    by_cases hkn : k ≤ n
    · have c1 : (k : Int) ≤ (n : Int) := by omega
      obtain ⟨hak, _⟩ := hr.go hkn
      obtain ⟨s, hse⟩ : ∃ s, p.extract a k = s := ⟨_, rfl⟩
      have hsl : s.data.toList = segL p.data.toList a k := by rw [← hse, extract_list]
      obtain ⟨e1, e2, e3, e4⟩ := seg_cmp s
      have HS := hideIt (okSeg_of s.data.toList (rfl) (rfl) (rfl))
      rw [hsl] at HS
      generalize hx1 : (s.data.toList == []) = x1 at *
      generalize hx2 : (s.data.toList == [46]) = x2 at *
      generalize hx3 : (s.data.toList == [46, 46]) = x3 at *
      rw [hsl] at hx1 hx2 hx3
      rw [hx1, hx2, hx3] at HS
      clear hx1 hx2 hx3 hsl
      have b0 : (0 : Int) ≤ (a : Int) := by omega
      have b1 : (a : Int) ≤ (k : Int) := by omega
      have b2 : (k : Int) ≤ (p.size : Int) := by omega
      have b3 : (0 : Int) ≤ (k : Int) := by omega
      by_cases hlt : k < n
      · have d1 : decide ((k : Int) < (n : Int)) = true := by simp; omega
        have hks : k < p.size := by omega
        have d2 : (k : Int) < (p.size : Int) := by omega
        have hc := at_list p k hks
        obtain ⟨c, hcc⟩ : ∃ c, p[k] = c := ⟨_, rfl⟩
        rw [hcc] at hc
        by_cases h47 : c = 47
        · subst h47
          have HR := hideIt hr
          have HC := hideIt hc
          clear hr hc
          have m1 : ((47 : UInt8).toNat : Int) = 47 := rfl
          cases x1 <;> cases x2 <;> cases x3
          all_goals go_wp2
          all_goals first
            | (go_ret; exact ⟨by rw [pathL, HR.out.seg hl hlt HC.out, HS.out]; simp, rfl⟩)
            | (go_round; all_goals first | exact ⟨k + 1, k + 1, by go_num, by go_num, HR.out.slash hl hlt HC.out (by rw [HS.out]; rfl)⟩ | (simp [intOf]; omega))
        · have HR := hideIt hr
          have HC := hideIt hc
          have n47 : ¬ ((c.toNat : Int) = 47) := by intro h; apply h47; apply UInt8.toNat_inj.1; simpa using (by omega : c.toNat = 47)
          have n48 : ((c.toNat : Int) == 47) = false := by simp; omega
          clear hr hc e1 e2 e3 e4 HS hse
          rcases cmp_cases (c.toNat : Int) with H | H | H | H | H | H | H | H
          all_goals (have HB := hideIt (okB_of H); obtain ⟨q1, q2, q3, q4, q5, q6, q7⟩ := H)
          all_goals go_wp2
          all_goals first
            | (go_ret; exact ⟨by rw [pathL, HR.out.bad hl hlt HC.out h47 (by rw [HB.out]; rfl)]; simp, rfl⟩)
            | (go_round; all_goals first | exact ⟨a, k + 1, by go_num, by go_num, HR.out.byte hl hlt HC.out h47 (by rw [HB.out]; rfl)⟩ | (simp [intOf]; omega))
      · have d1 : decide ((k : Int) < (n : Int)) = false := by simp; omega
        obtain rfl : k = n := by omega
        have HR := hideIt hr
        clear hr
        cases x1 <;> cases x2 <;> cases x3
        all_goals go_wp2
        all_goals first
          | (go_ret; exact ⟨by rw [pathL, HR.out.last hl, HS.out]; simp, rfl⟩)
          | (go_round; all_goals first | exact ⟨k + 1, k + 1, by go_num, by go_num, HR.out.done hl (by rw [HS.out]; rfl)⟩ | (simp [intOf]))
    · have c1 : ¬ (k : Int) ≤ (n : Int) := by omega
      have HF := hideIt (hr.fin (by have := hr.le; omega))
      by_cases h200 : n ≤ 200
      · have c2 : decide ((n : Int) ≤ 200) = true := by simp; omega
        go_wp2
        go_ret
        exact ⟨by rw [pathL, HF.out, hl]; simp [h200], rfl⟩
      · have c2 : decide ((n : Int) ≤ 200) = false := by simp; omega
        go_wp2
        go_ret
        exact ⟨by rw [pathL, HF.out, hl]; simp [h200], rfl⟩
end Go.Proofs.YtefefgiooknpkaaGreatDoor
