/- Indexes: the spots of one byte; where an object stands: walked. -/
import Derived.Test.YtllpfpbpdgpnkaaDoorIxYc
namespace Go.Proofs.YtllpfpbpdgpnkaaDoor.Ix
open Cb Go.RowKit Go.Shelf
/-- A part of a row of spots. -/
theorem part_row {w : World} {ad : Addr} {n c p q : Nat} {m : List Sp} (hrow : 0 < m.length → ∃ b o, (some ad : Option Addr) = some ⟨b, o, none⟩ ∧ SCells w b o m) (hn : m.length = n) (hpq : p ≤ q) (hq : q ≤ n) (hnc : n ≤ c) (hcm : c ≤ maxLen) :
    SRow w (.slice (if c = p then some ad else some (ad.add (p * 2))) (q - p) (c - p)) ((m.drop p).take (q - p)) := by
  have hl : ((m.drop p).take (q - p)).length = q - p := by simp; omega
  by_cases h0 : q - p = 0
  · have e : (m.drop p).take (q - p) = [] := List.eq_nil_of_length_eq_zero (by rw [hl, h0])
    rw [e]
    refine ⟨_, _, by rw [h0]; rfl, by simp, ⟨by omega, fun h => ?_⟩, fun h => by simp at h⟩
    split at h <;> cases h
  · rw [if_neg (by omega)]
    obtain ⟨b, o, e, hc⟩ := hrow (by omega)
    cases e
    refine ⟨some ((⟨b, o, none⟩ : Addr).add (p * 2)), c - p, by rw [hl], by rw [hl]; omega, ⟨by omega, fun h => by cases h⟩, fun _ => ⟨b, o + p * 2, by rw [Addr.add_lit], hc.sub p (q - p)⟩⟩
theorem first_row {w : World} {ad : Addr} {n c q : Nat} {m : List Sp} (hrow : 0 < m.length → ∃ b o, (some ad : Option Addr) = some ⟨b, o, none⟩ ∧ SCells w b o m) (hn : m.length = n) (hq : q ≤ n) (hnc : n ≤ c) (hcm : c ≤ maxLen) : SRow w (.slice (some ad) q c) (m.take q) := by
  have hl : (m.take q).length = q := by simp; omega
  refine ⟨some ad, c, by rw [hl], by rw [hl]; omega, ⟨by omega, fun h => by cases h⟩, fun h => ?_⟩
  obtain ⟨b, o, e, hc⟩ := hrow (by omega)
  refine ⟨b, o, e, ?_⟩
  have := hc.sub 0 q
  simpa using this
theorem near_is {m : List Sp} {b p q : Nat} (hp : ahead m b = p) (hq : cnt m b = q) : near m b = (m.drop p).take (q - p) := by rw [near, hp, hq]
set_option maxHeartbeats 1600000 in
set_option maxRecDepth 100000 in
theorem alike_any (g : Nat) (pack : ByteArray) (m : List Sp) (b : Nat) (w : World) (h : IxAt w g pack m) (hb : b < 256) (hm : m.length ≤ 1000000) :
    Calls Tryd.prog 33 #[.pointer (some ⟨g, 0, none⟩), .int .u8 (b : Int)] w fun e w' => RowTo w (near m b) e w' := by
  have HT : Hid (∀ e w', RowTo w (near m b) e w' ↔ ∃ v, e = .returned v ∧ SRow w' v (near m b) ∧ Below w.heap.size w w') := hideIt (fun _ _ => Iff.rfl)
  obtain ⟨v, h1, h2⟩ := h
  obtain ⟨a, c, rfl, hlc, ⟨hcm, hnn⟩, hrow⟩ := h2
  have c0 : w.cell? ⟨g, 257, none⟩ = some (.slice a m.length c) := cellAt h1 (ixA_row _ _ _)
  have c1 : w.cell? ⟨g, 1 + b, none⟩ = some (.int .i64 (cnt m b : Int)) := cellAt h1 (ixA_num _ _ _ _ hb)
  have hq := cnt_le m b
  have hpq := ahead_le m b
  have HP : Hid (∀ p q, ahead m b = p → cnt m b = q → near m b = (m.drop p).take (q - p)) := hideIt (fun p q => near_is)
  have hah : ahead m b = if b = 0 then 0 else cnt m (b - 1) := rfl
  have c2 : 0 < b → w.cell? ⟨g, 1 + (b - 1), none⟩ = some (.int .i64 (cnt m (b - 1) : Int)) := fun h => cellAt h1 (ixA_num _ _ _ _ (by omega))
  obtain ⟨p, hp⟩ : ∃ p, ahead m b = p := ⟨_, rfl⟩
  obtain ⟨q, hqq⟩ : ∃ q, cnt m b = q := ⟨_, rfl⟩
  have HN := hideIt (HP.out p q hp hqq)
  rw [hp] at hpq hah
  rw [hqq] at hpq hq c1
  obtain ⟨n, hn⟩ : ∃ n, m.length = n := ⟨_, rfl⟩
  have q9 : (q : Int) ≤ (n : Int) := by omega
  have p9 : (p : Int) ≤ (q : Int) := by omega
  have n9 : (n : Int) ≤ (c : Int) := by omega
  have b9 : (b : Int) < 256 := by omega
  have HB : Hid (∀ k, Below w.heap.size w (w.drewN k)) := hideIt (fun k => below_drewN w k)
  cases a with
  | none =>
    have hc0 := hnn rfl
    subst hc0
    have HE : Hid (∀ k, SRow (w.drewN k) (.slice none 0 0) (near m b)) := hideIt (fun k => by
      rw [List.eq_nil_of_length_eq_zero (l := near m b) (by rw [near_len, hp, hqq]; omega)]
      exact SRow.nil _)
    obtain rfl : p = 0 := by omega
    obtain rfl : q = 0 := by omega
    rw [hn] at c0
    obtain rfl : n = 0 := by omega
    clear hcm hnn hrow hlc hn HP h1 hq hpq hm
    by_cases hb0 : b = 0
    · subst hb0
      clear c2 hah
      go_enter Tryd.func33, Tryd.ntmps33
      go_wp2
      go_quiet (fail)
      go_wp2
      go_ret
      exact (HT.out _ _).2 ⟨_, rfl, HE.out _, HB.out _⟩
    · rw [if_neg hb0] at hah
      have c3 := c2 (by omega)
      rw [← hah] at c3
      obtain ⟨b1, hb1⟩ : ∃ b1, b - 1 = b1 := ⟨_, rfl⟩
      rw [hb1] at c3
      have b2 : (b : Int) - 1 = (b1 : Int) := by omega
      have b3 : (b1 : Int) < 256 := by omega
      have b4 : (0 : Int) < (b : Int) := by omega
      have b5 : decide ((0 : Int) < (b : Int)) = true := decide_eq_true b4
      have b6 : 0 < b := by omega
      clear c2 hah hb1 hb0
      go_enter Tryd.func33, Tryd.ntmps33
      go_wp2
      go_quiet (fail)
      go_wp2
      go_ret
      exact (HT.out _ _).2 ⟨_, rfl, HE.out _, HB.out _⟩
  | some ad =>
    have HR : Hid (∀ k, SRow (w.drewN k) (.slice (if c = p then some ad else some (ad.add (p * 2))) (q - p) (c - p)) (near m b)) := hideIt (fun k => by
      rw [HN.out]
      exact (part_row hrow hn (by omega) (by omega) (by omega) hcm).below (below_drewN w k))
    have HF : Hid (p = 0 → ∀ k, SRow (w.drewN k) (.slice (some ad) q c) (near m b)) := hideIt (fun h0 k => by
      rw [HN.out, h0]
      exact (first_row hrow hn (by omega) (by omega) hcm).below (below_drewN w k))
    rw [hn] at c0
    clear hcm hnn hrow hlc HP h1 hm
    by_cases hb0 : b = 0
    · subst hb0
      rw [if_pos rfl] at hah
      have HF2 := hideIt (HF.out hah)
      subst hah
      clear c2 HF
      go_enter Tryd.func33, Tryd.ntmps33
      go_wp2
      go_quiet (fail)
      go_wp2
      go_ret
      exact (HT.out _ _).2 ⟨_, rfl, HF2.out _, HB.out _⟩
    · rw [if_neg hb0] at hah
      have c3 := c2 (by omega)
      rw [← hah] at c3
      obtain ⟨b1, hb1⟩ : ∃ b1, b - 1 = b1 := ⟨_, rfl⟩
      rw [hb1] at c3
      have b2 : (b : Int) - 1 = (b1 : Int) := by omega
      have b3 : (b1 : Int) < 256 := by omega
      have b4 : (0 : Int) < (b : Int) := by omega
      have b5 : decide ((0 : Int) < (b : Int)) = true := decide_eq_true b4
      have b6 : 0 < b := by omega
      clear c2 hah hb1 hb0 HF
      by_cases hcp : c = p
      · rw [if_pos hcp] at HR
        have HR2 : Hid (∀ k, SRow (w.drewN k) (.slice (some ad) (q - p) 0) (near m b)) := hideIt (fun k => by have := HR.out k; rwa [show c - p = 0 by omega] at this)
        go_enter Tryd.func33, Tryd.ntmps33
        go_wp2
        go_quiet (fail)
        go_wp2
        go_ret
        exact (HT.out _ _).2 ⟨_, rfl, HR2.out _, HB.out _⟩
      · rw [if_neg hcp] at HR
        go_enter Tryd.func33, Tryd.ntmps33
        go_wp2
        go_quiet (fail)
        go_wp2
        go_ret
        exact (HT.out _ _).2 ⟨_, rfl, HR.out _, HB.out _⟩
/-- What is found. -/
def fndV (o : Option Sp) : Value := match o with
  | some x => .tuple #[.int .i64 x.pl, .bool true]
  | none => .tuple #[.int .i64 0, .bool false]
theorem hd_at {t : ByteArray} (h : 0 < t.size) : hd ⟨t, 0⟩ = (t[0]'h).toNat := hd_is (x := ⟨t, 0⟩) h
set_option maxHeartbeats 1600000 in
set_option maxRecDepth 100000 in
theorem find_any (g : Nat) (pack : ByteArray) (m : List Sp) (t : ByteArray) (w : World) (h : IxAt w g pack m) (hu : Up m) (hr : Right m) (hm : m.length ≤ 1000000) :
    Calls Tryd.prog 16 #[.pointer (some ⟨g, 0, none⟩), .string t] w fun e w' => e = .returned (fndV (look m t)) ∧ Below w.heap.size w w' := by
  obtain ⟨V, hV⟩ : ∃ V, fndV (look m t) = V := ⟨_, rfl⟩
  rw [hV]
  by_cases hs : t.size = 32
  · have h0 : 0 < t.size := by omega
    have s1 : (t.size : Int) = 32 := by omega
    have s2 : ((t.size : Int) != 32) = false := by simpa using s1
    have s3 : ((t.size : Int) == 32) = true := by simpa using s1
    have s4 : (0 : Int) < (t.size : Int) := by omega
    have hh := hd_at h0
    obtain ⟨y, hy⟩ : ∃ y, t[0]'h0 = y := ⟨_, rfl⟩
    rw [hy] at hh
    have hu8 := y.toNat_lt
    have HA := hideIt (alike_any g pack m y.toNat w h (by omega) hm)
    have hnl : (near m y.toNat).length ≤ 1000000 := by
      rw [near_len]
      have := cnt_le m y.toNat
      omega
    have HS := hideIt (fun v w' (hv : SRow w' v (near m y.toNat)) => search_any v (near m y.toNat) t w' hv hnl (near_up hu _))
    have HF := near_found hu (t := t) (b := y.toNat) hh
    obtain ⟨P, hP⟩ : ∃ P, pos (near m y.toNat) t = P := ⟨_, rfl⟩
    have hPl := pos_le (near m y.toNat) t
    rw [hP] at HS HF hPl
    generalize near m y.toNat = l at HA HS HF hPl hnl
    rcases HF with ⟨f1, f2⟩ | ⟨f1, x, f2, f3⟩
    · rw [f1] at HS
      rw [f2] at hV
      have HV : Hid (V = .tuple #[.int .i64 0, .bool false]) := hideIt hV.symm
      clear f1 f2 hV h hh hP
      go_enter Tryd.func16, Tryd.ntmps16
      go_wp2_with (first | (go_at_call 33; refine HA.out.mono ?_; rintro e w1 ⟨v1, rfl, hr1, hb1⟩; have H1 := hideIt (HS.out v1 w1 hr1); have B1 := hideIt hb1; clear hr1 hb1) | (go_at_call 34; refine H1.out.mono ?_; rintro e w2 ⟨rfl, hb2⟩; have B2 := hideIt (below2 B1.out hb2); clear hb2))
      go_ret2
      exact ⟨by rw [HV.out]; rfl, B2.out⟩
    · rw [f1] at HS
      rw [f3] at hV
      have HV : Hid (V = .tuple #[.int .i64 x.pl, .bool true]) := hideIt hV.symm
      have hlt : P < l.length := (List.getElem?_eq_some_iff.1 f2).1
      have HX := hideIt f2
      clear f1 f2 f3 hV h hh hP
      obtain ⟨n, hn⟩ : ∃ n, l.length = n := ⟨_, rfl⟩
      have HN := hideIt hn
      rw [hn] at hlt
      have p1 : (P : Int) < (n : Int) := by omega
      clear hn hPl hnl
      go_enter Tryd.func16, Tryd.ntmps16
      go_wp2_with (first | (go_at_call 33; refine HA.out.mono ?_; rintro e w1 ⟨v1, rfl, hr1, hb1⟩; have H1 := hideIt (HS.out v1 w1 hr1); have B1 := hideIt hb1; have R1 := hideIt hr1; obtain ⟨av, cv, rfl, hle, hcm, hrow⟩ := id hr1; rw [HN.out] at hle hrow ⊢; obtain ⟨bb, oo, rfl, hcells⟩ := hrow (by omega); have HCC := hideIt hcells; rw [HN.out] at H1; clear hr1 hb1 hle hcm hcells hrow) | (go_at_call 34; refine H1.out.mono ?_; rintro e w2 ⟨rfl, hb2⟩; obtain ⟨z0, z1⟩ := (HCC.out.below hb2).2 P x HX.out; have B2 := hideIt (below2 B1.out hb2); clear hb2))
      go_ret2
      exact ⟨by rw [HV.out]; rfl, B2.out⟩
  · have HV : Hid (V = .tuple #[.int .i64 0, .bool false]) := hideIt (by
      rw [← hV, look_none (fun x hx e => hs (by rw [← e]; exact (wrong_size (hr x hx)).1))]
      rfl)
    have s1 : ¬ (t.size : Int) = 32 := by omega
    have s2 : ((t.size : Int) != 32) = true := by simpa using s1
    have s3 : ((t.size : Int) == 32) = false := by simpa using s1
    clear hV h hs
    go_enter Tryd.func16, Tryd.ntmps16
    go_wp2
    go_ret2
    exact ⟨by rw [HV.out]; rfl, Below.refl _ _⟩
end Go.Proofs.YtllpfpbpdgpnkaaDoor.Ix
