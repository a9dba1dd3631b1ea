/- IndexMakes: walked. -/
import Derived.Test.YtllpfpbpdgpnkaaDoorIxYi
import Derived.Test.YtllpfpbpdgpnkaaDoorIxYg
import Derived.Test.YtllpfpbpdgpnkaaDoorIxYe
namespace Go.Proofs.YtllpfpbpdgpnkaaDoor.Ix
open Cb Go.RowKit Go.Shelf
set_option maxHeartbeats 400000 in
set_option maxRecDepth 100000 in
theorem refsorted_pack (pack : ByteArray) (v : Value) (w : World) (h : ¬ pack.size = 32) : Calls Tryd.prog 9 #[.string pack, v] w fun e w' => e = .returned (.tuple #[.slice none 0 0, .int .i64 1]) ∧ w' = w := by
  have hp1 : ¬ (pack.size : Int) = 32 := by omega
  have hp2 : ((pack.size : Int) != 32) = true := by simpa using hp1
  have hp3 : ((pack.size : Int) == 32) = false := by simpa using hp1
  clear h
  go_enter Tryd.func9, Tryd.ntmps9
  go_wp2
  go_ret2
  exact ⟨rfl, rfl⟩
/-- The spots of an index, or none. -/
def ixO (pack : ByteArray) (l : List Sp) : Option (List Sp) := if pack.size = 32 then srtF [] l else none
def NwTo (w : World) (pack : ByteArray) (o : Option (List Sp)) (e : Ending) (w' : World) : Prop := match o with
  | none => e = .returned (.tuple #[.pointer none, .int .i64 1]) ∧ Below w.heap.size w w'
  | some m => NewTo w pack m e w'
theorem new_any (pack : ByteArray) (v : Value) (l : List Sp) (w : World) (h : SRow w v l) (hl : l.length ≤ 2048) : Calls Tryd.prog 8 #[.string pack, v] w fun e w' => NwTo w pack (ixO pack l) e w' := by
  unfold ixO
  by_cases hp : pack.size = 32
  · rw [if_pos hp]
    cases hm : srtF [] l with
    | some m => exact new_ok pack v l m w h hp hl hm
    | none =>
      cases hw : l.any wrong with
      | true => exact new_wrong pack v l w h hp hl hw
      | false => exact new_twice pack v l w h hp hl hw hm
  · rw [if_neg hp]
    refine (new_pack pack v w hp).mono ?_
    rintro e w' ⟨rfl, rfl⟩
    exact ⟨rfl, Below.refl _ _⟩
theorem refsorted_all (pack : ByteArray) (v : Value) (l : List Sp) (w : World) (h : SRow w v l) (hl : l.length ≤ 2048) : Calls Tryd.prog 9 #[.string pack, v] w fun e w' => SrTo w (ixO pack l) e w' := by
  unfold ixO
  by_cases hp : pack.size = 32
  · rw [if_pos hp]
    exact refsorted_any pack v l w h hp hl
  · rw [if_neg hp]
    refine (refsorted_pack pack v w hp).mono ?_
    rintro e w' ⟨rfl, rfl⟩
    exact ⟨Below.refl _ _, rfl⟩
theorem ixO_some {pack : ByteArray} {l m : List Sp} (h : ixO pack l = some m) : pack.size = 32 ∧ Right m ∧ Up m ∧ m.length = l.length := by
  unfold ixO at h
  by_cases hp : pack.size = 32
  · rw [if_pos hp] at h
    obtain ⟨a, b, c⟩ := srt_right h
    exact ⟨hp, a, b, c⟩
  · rw [if_neg hp] at h
    cases h
set_option maxHeartbeats 1600000 in
set_option maxRecDepth 100000 in
theorem makes_law (pack : ByteArray) (v : Value) (l : List Sp) (w : World) (h : SRow w v l) (_ : ∀ x ∈ l, x.d.size ≤ maxLen) (hK : Sa.KAt w) :
    Calls Tryd.prog 3 #[.string pack, v] w fun e w' => e = .returned (.bool true) ∧ Below w.heap.size w w' := by
  have HCU := hideIt (cut_any v l w h)
  have hL : (l.take 30).length ≤ 30 := by simp; omega
  have HNW := hideIt (fun v w h => new_any pack v (l.take 30) w h (by omega))
  have HSO := hideIt (fun v w h => refsorted_all pack v (l.take 30) w h (by omega))
  have HAW := hideIt awake_any
  have HKW := hideIt (fun w' (hb : Below w.heap.size w w') => Sa.K_below hb (Sa.K_pos hK) hK)
  have HOS := hideIt (fun m (hm : ixO pack (l.take 30) = some m) => ixO_some hm)
  have HOR := hideIt (fun (w' : World) (B : Nat) t v (h : w'.ownsRow B t 2 v (l.take 30).length (spsV (l.take 30))) => SRow.of_row h)
  cases ho : ixO pack (l.take 30) with
  | none =>
    rw [ho] at HNW HSO
    clear hK h
    go_enter Tryd.func3, Tryd.ntmps3
    go_wp2_with (first
      | (go_at_call 7; refine HCU.out.mono ?_; rintro e w1 ⟨v1, v2, rfl, hv1, hv2, hb1⟩; have R1 := hideIt (HOR.out _ _ _ _ hv1); have R2 := hideIt (HOR.out _ _ _ _ hv2); have B1 := hideIt hb1; clear hv1 hv2 hb1)
      | (go_at_call 8; refine (HNW.out _ _ R1.out).mono ?_; rintro e w2 ⟨rfl, hb2⟩; have R3 := hideIt (R2.out.below hb2); have B2 := hideIt (below2 B1.out hb2); clear hb2)
      | (go_at_call 9; refine (HSO.out _ _ R3.out).mono ?_; rintro e w3 ⟨hb3, he3⟩; obtain rfl := he3; have B3 := hideIt (below2 B2.out hb3); clear hb3)
      | (go_at_call 10; refine (HAW.out _).mono ?_; rintro e w4 ⟨rfl, hb4⟩; have B4 := hideIt (below2 B3.out hb4); clear hb4))
    go_ret
    exact ⟨rfl, B4.out⟩
  | some m =>
    rw [ho] at HNW HSO
    obtain ⟨hps, hrt, hup, hml⟩ := HOS.out m ho
    have hm30 : m.length ≤ 30 := by omega
    have HAL := hideIt (fun g w h => all_any g pack m w h (by omega))
    have HEN := hideIt (fun g w hk h => encode_any g pack m w hk h hps hrt (by omega))
    have HRE := hideIt (fun v w h => refencode_any pack v m w h hps hrt (by omega))
    generalize bs (encL pack m) = Z at HEN HRE
    obtain ⟨n, hn⟩ : ∃ n, m.length = n := ⟨_, rfl⟩
    have HN := hideIt hn
    rw [hn] at hm30
    have HM := hideIt hm30
    clear hK h hn hml hL
    go_enter Tryd.func3, Tryd.ntmps3
    go_wp2_with (first
      | (go_at_call 7; refine HCU.out.mono ?_; rintro e w1 ⟨v1, v2, rfl, hv1, hv2, hb1⟩; have R1 := hideIt (HOR.out _ _ _ _ hv1); have R2 := hideIt (HOR.out _ _ _ _ hv2); have B1 := hideIt hb1; clear hv1 hv2 hb1)
      | (go_at_call 8; refine (HNW.out _ _ R1.out).mono ?_; rintro e w2 ⟨g, rfl, hi2, hb2⟩; have I2 := hideIt hi2; have R3 := hideIt (R2.out.below hb2); have B2 := hideIt (below2 B1.out hb2); clear hb2 hi2)
      | (go_at_call 9; refine (HSO.out _ _ R3.out).mono ?_; rintro e w3 ⟨hb3, v3, he3, hr3⟩; obtain rfl := he3; have I3 := hideIt (I2.out.below hb3); have R5 := hideIt hr3; obtain ⟨a3, c3, rfl, _, _, _⟩ := id hr3; rw [HN.out]; rw [HN.out] at R5; have B3 := hideIt (below2 B2.out hb3); clear hb3 hr3)
      | (go_at_call 10; refine (HAW.out _).mono ?_; rintro e w4 ⟨rfl, hb4⟩; have I4 := hideIt (I3.out.below hb4); have R6 := hideIt (R5.out.below hb4); have B4 := hideIt (below2 B3.out hb4); clear hb4)
      | (go_at_call 11; refine (HAL.out _ _ I4.out).mono ?_; rintro e w5 ⟨v5, rfl, hr5, hb5⟩; have Q5 := hideIt hr5; obtain ⟨a5, c5, rfl, _, _, _⟩ := id hr5; rw [HN.out]; rw [HN.out] at Q5; have I5 := hideIt (I4.out.below hb5); have R7 := hideIt (R6.out.below hb5); have B5 := hideIt (below2 B4.out hb5); clear hb5 hr5)
      | (go_at_call 12; refine (HEN.out _ _ (HKW.out _ B5.out) I5.out).mono ?_; rintro e w6 ⟨rfl, hb6⟩; have R8 := hideIt (R7.out.below hb6); have Q6 := hideIt (Q5.out.below hb6); have B6 := hideIt (below2 B5.out hb6); clear hb6)
      | (go_at_call 13; refine (HRE.out _ _ R8.out).mono ?_; rintro e w7 ⟨rfl, hb7⟩; have R9 := hideIt (R8.out.below hb7); have Q7 := hideIt (Q6.out.below hb7); have B7 := hideIt (below2 B6.out hb7); clear hb7))
    go_loopw [12] (fun t12 wr => ∃ i : Nat, i ≤ n ∧ t12 = .int .i64 (i : Int) ∧ Below w7.heap.size w7 wr) (fun t12 _ => n - (intOf t12).toNat)
    case atStart => exact ⟨0, by omega, rfl, Below.refl _ _⟩
    case round =>
      obtain ⟨i, hi, rfl, hb⟩ := hrel
      have HB := hideIt hb
      by_cases hlt : i < n
      · have i1 : (i : Int) < (n : Int) := by omega
        have i2 : decide ((i : Int) < (n : Int)) = true := decide_eq_true i1
        obtain ⟨x, hxi⟩ : ∃ x, m[i]? = some x := ⟨m[i]'(by rw [HN.out]; exact hlt), by simp⟩
        obtain ⟨ax, cx, hx, hx1, hx2, hrx⟩ := R9.out.below hb
        cases hx
        obtain ⟨bx, ox, rfl, hcx⟩ := hrx (by rw [HN.out]; omega)
        obtain ⟨c0, c1⟩ := hcx.2 i x hxi
        obtain ⟨ay, cy, hy, hy1, hy2, hry⟩ := Q7.out.below hb
        cases hy
        obtain ⟨by1, oy, rfl, hcy⟩ := hry (by rw [HN.out]; omega)
        obtain ⟨d0, d1⟩ := hcy.2 i x hxi
        clear hcx hcy hrx hry hx1 hx2 hy1 hy2 hxi hb
        go_wp2
        go_quiet (fail)
        go_wp2
        go_roundw
        case rel => exact ⟨i + 1, by omega, by go_num, below2 HB.out (below_drewN _ _)⟩
        case measure => simp [intOf]; omega
      · have i2 : decide ((i : Int) < (n : Int)) = false := decide_eq_false (by omega)
        obtain rfl : i = n := by omega
        clear hb
        go_wp2
        go_ret
        exact ⟨rfl, below2 B7.out HB.out⟩
end Go.Proofs.YtllpfpbpdgpnkaaDoor.Ix
