/- IndexFinds: walked. -/
import Derived.Test.YtllpfpbpdgpnkaaDoorIxYl
namespace Go.Proofs.YtllpfpbpdgpnkaaDoor.Ix
open Cb Go.RowKit Go.Shelf
def fB (o : Option Sp) : Bool := o.isSome
def fN (o : Option Sp) : Int := match o with
  | some x => x.pl
  | none => 0
theorem fndV_is (o : Option Sp) : fndV o = .tuple #[.int .i64 (fN o), .bool (fB o)] := by cases o <;> rfl
theorem look_next {m : List Sp} (hu : Up m) {i : Nat} {x : Sp} (hx : m[i]? = some x) (t : ByteArray) : look (m.take (i + 1)) t = if x.d = t then some x else look (m.take i) t := by
  obtain ⟨hi, rfl⟩ := List.getElem?_eq_some_iff.1 hx
  by_cases h : m[i].d = t
  · rw [if_pos h, ← h]
    refine look_some (hu.sublist (List.take_sublist _ _)) ?_
    rw [List.take_succ_eq_append_getElem hi]
    exact List.mem_append_right _ (List.mem_singleton.2 rfl)
  · rw [if_neg h, List.take_succ_eq_append_getElem hi]
    unfold look
    rw [List.find?_append]
    simp [h]
def sE : ByteArray := Sa.Sha.sha []
theorem sE_size : sE.size = 32 := sha_size []
theorem ref_e (w : World) : Calls Tryd.prog 14 #[.string ⟨#[]⟩] w fun e w' => e = .returned (.string sE) ∧ Below w.heap.size w w' := Sa.ref_any ⟨#[]⟩ w (by decide)
set_option maxHeartbeats 1600000 in
set_option maxRecDepth 100000 in
theorem finds_law (v : Value) (l : List Sp) (id : ByteArray) (w : World) (h : SRow w v l) (_ : ∀ x ∈ l, x.d.size ≤ maxLen) (hK : Sa.KAt w) :
    Calls Tryd.prog 4 #[v, .string id] w fun e w' => e = .returned (.bool true) ∧ Below w.heap.size w w' := by
  have HCU := hideIt (cut_any v l w h)
  have hL : (l.take 30).length ≤ 30 := by simp; omega
  have HRF := hideIt ref_e
  have HNW := hideIt (fun v w h => new_any sE v (l.take 30) w h (by omega))
  have HSO := hideIt (fun v w h => refsorted_all sE v (l.take 30) w h (by omega))
  have HAW := hideIt awake_any
  have HKW := hideIt (fun w' (hb : Below w.heap.size w w') => Sa.K_below hb (Sa.K_pos hK) hK)
  have HOS := hideIt (fun m (hm : ixO sE (l.take 30) = some m) => ixO_some hm)
  have HOR := hideIt (fun (w' : World) (B : Nat) t v (h : w'.ownsRow B t 2 v (l.take 30).length (spsV (l.take 30))) => SRow.of_row h)
  cases ho : ixO sE (l.take 30) with
  | none =>
    rw [ho] at HNW HSO
    generalize sE = E at *
    clear hK h
    go_enter Tryd.func4, Tryd.ntmps4
    go_wp2_with (first
      | (go_at_call 7; refine HCU.out.mono ?_; rintro e w1 ⟨v1, v2, rfl, hv1, hv2, hb1⟩; have R1 := hideIt (HOR.out _ _ _ _ hv1); have R2 := hideIt (HOR.out _ _ _ _ hv2); have B1 := hideIt hb1; clear hv1 hv2 hb1)
      | (go_at_call 8; refine (HNW.out _ _ R1.out).mono ?_; rintro e w2 ⟨rfl, hb2⟩; have R1 := hideIt (R1.out.below hb2); have R2 := hideIt (R2.out.below hb2); have B1 := hideIt (below2 B1.out hb2); clear hb2)
      | (go_at_call 9; refine (HSO.out _ _ R2.out).mono ?_; rintro e w3 ⟨hb3, he3⟩; obtain rfl := he3; have B1 := hideIt (below2 B1.out hb3); clear hb3 R2 R1)
      | (go_at_call 14; refine (HRF.out _).mono ?_; rintro e w4 ⟨rfl, hb4⟩; have R1 := hideIt (R1.out.below hb4); have R2 := hideIt (R2.out.below hb4); have B1 := hideIt (below2 B1.out hb4); clear hb4)
      | (go_at_call 10; refine (HAW.out _).mono ?_; rintro e w5 ⟨rfl, hb5⟩; have B1 := hideIt (below2 B1.out hb5); clear hb5))
    go_ret
    exact ⟨rfl, B1.out⟩
  | some m =>
    rw [ho] at HNW HSO
    obtain ⟨hps, hrt, hup, hml⟩ := HOS.out m ho
    have hm30 : m.length ≤ 30 := by omega
    have HEN := hideIt (fun g w hk h => encode_any g sE m w hk h hps hrt (by omega))
    obtain ⟨hd1, hd2, hd3⟩ := ld_enc hps hrt hup (by omega)
    have HLD := hideIt (fun w hk => load_any (encL sE m) w hk (by rw [encL_len hps hrt]; omega))
    have HLT : Hid (∀ (w : World) e w', LdTo w (encL sE m) e w' → Below w.heap.size w w' ∧ ∃ g, e = .returned (.tuple #[.pointer (some ⟨g, 0, none⟩), .int .i64 0]) ∧ IxAt w' g sE m) := hideIt (fun w e w' hl => by
      obtain ⟨hb, ⟨_, m2, g, hm2, he, hi⟩ | ⟨hne, _⟩⟩ := hl
      · rw [hd1] at hm2
        cases hm2
        rw [hd3] at hi
        exact ⟨hb, g, he, hi⟩
      · exact absurd hd2 hne)
    have HFD := hideIt (fun g t w h => find_any g sE m t w h hup hrt (by omega))
    have HLK := hideIt (fun (x : Sp) (hx : x ∈ m) => look_some hup hx)
    have HLN := hideIt (fun (i : Nat) (x : Sp) (hx : m[i]? = some x) => look_next hup hx id)
    have HLE : Hid (m.take m.length = m) := hideIt List.take_length
    have HL0 : Hid (look (m.take 0) id = none) := hideIt rfl
    generalize bs (encL sE m) = Z at HEN HLD
    generalize encL sE m = ZL at HLD HLT
    obtain ⟨n, hn⟩ : ∃ n, m.length = n := ⟨_, rfl⟩
    have HN := hideIt hn
    rw [hn] at hm30 HLE
    generalize sE = E at *
    clear hK h hn hml hL hd1 hd2 hd3 ho
    go_enter Tryd.func4, Tryd.ntmps4
    go_wp2_with (first
      | (go_at_call 7; refine HCU.out.mono ?_; rintro e w1 ⟨v1, v2, rfl, hv1, hv2, hb1⟩; have R1 := hideIt (HOR.out _ _ _ _ hv1); have R2 := hideIt (HOR.out _ _ _ _ hv2); have B1 := hideIt hb1; clear hv1 hv2 hb1)
      | (go_at_call 8; refine (HNW.out _ _ R1.out).mono ?_; rintro e w2 ⟨g, rfl, hi2, hb2⟩; have I2 := hideIt hi2; have R2 := hideIt (R2.out.below hb2); have B1 := hideIt (below2 B1.out hb2); clear hb2 hi2 R1)
      | (go_at_call 9; refine (HSO.out _ _ R2.out).mono ?_; rintro e w3 ⟨hb3, v3, he3, hr3⟩; obtain rfl := he3; have I2 := hideIt (I2.out.below hb3); have R5 := hideIt hr3; obtain ⟨a3, c3, rfl, _, _, _⟩ := _root_.id hr3; rw [HN.out]; rw [HN.out] at R5; have B1 := hideIt (below2 B1.out hb3); clear hb3 hr3 R2)
      | (go_at_call 14; refine (HRF.out _).mono ?_; rintro e w4 ⟨rfl, hb4⟩; have R1 := hideIt (R1.out.below hb4); have R2 := hideIt (R2.out.below hb4); have B1 := hideIt (below2 B1.out hb4); clear hb4)
      | (go_at_call 14; refine (HRF.out _).mono ?_; rintro e w4 ⟨rfl, hb4⟩; have I2 := hideIt (I2.out.below hb4); have R2 := hideIt (R2.out.below hb4); have B1 := hideIt (below2 B1.out hb4); clear hb4)
      | (go_at_call 10; refine (HAW.out _).mono ?_; rintro e w5 ⟨rfl, hb5⟩; have I2 := hideIt (I2.out.below hb5); have R5 := hideIt (R5.out.below hb5); have B1 := hideIt (below2 B1.out hb5); clear hb5)
      | (go_at_call 12; refine (HEN.out _ _ (HKW.out _ B1.out) I2.out).mono ?_; rintro e w6 ⟨rfl, hb6⟩; have I2 := hideIt (I2.out.below hb6); have R5 := hideIt (R5.out.below hb6); have B1 := hideIt (below2 B1.out hb6); clear hb6)
      | (go_at_call 15; refine (HLD.out _ (HKW.out _ B1.out)).mono ?_; rintro e w7 hl7; obtain ⟨hb7, g2, he7, hi7⟩ := HLT.out _ _ _ hl7; obtain rfl := he7; have J2 := hideIt hi7; have I2 := hideIt (I2.out.below hb7); have R5 := hideIt (R5.out.below hb7); have B1 := hideIt (below2 B1.out hb7); clear hb7 hi7 hl7))
    go_loopw [13, 14, 15] (fun t13 t14 t15 wr => ∃ i : Nat, i ≤ n ∧ t15 = .int .i64 (i : Int) ∧ t13 = .bool (fB (look (m.take i) id)) ∧ t14 = .int .i64 (fN (look (m.take i) id)) ∧ Below w7.heap.size w7 wr) (fun _ _ t15 _ => n - (intOf t15).toNat)
    case atStart => exact ⟨0, by omega, rfl, by rw [HL0.out]; rfl, by rw [HL0.out]; rfl, Below.refl _ _⟩
    case round =>
      obtain ⟨i, hi, rfl, rfl, rfl, hb⟩ := hrel
      have HB := hideIt hb
      by_cases hlt : i < n
      · have i1 : (i : Int) < (n : Int) := by omega
        have i2 : decide ((i : Int) < (n : Int)) = true := decide_eq_true i1
        obtain ⟨x, hxi⟩ : ∃ x, m[i]? = some x := ⟨m[i]'(by rw [HN.out]; exact hlt), by simp⟩
        obtain ⟨ax, cx, hx, hx1, hx2, hrx⟩ := R5.out.below hb
        cases hx
        obtain ⟨bx, ox, rfl, hcx⟩ := hrx (by rw [HN.out]; omega)
        obtain ⟨c0, c1⟩ := hcx.2 i x hxi
        have HCX := hideIt (fun w' (h : Below wr.heap.size wr w') => (hcx.below h).2 i x hxi)
        have HI := hideIt (I2.out.below hb)
        have HJ := hideIt (J2.out.below hb)
        have HF1 := hideIt (fun g w h => HFD.out g x.d w h)
        rw [HLK.out x (List.mem_of_getElem? hxi)] at HF1
        have HF2 : Hid (∀ g w, IxAt w g E m → Calls Tryd.prog 16 #[.pointer (some ⟨g, 0, none⟩), .string x.d] w fun e w' => e = .returned (.tuple #[.int .i64 x.pl, .bool true]) ∧ Below w.heap.size w w') := HF1
        have hln := HLN.out i x hxi
        obtain ⟨Bq, hBq⟩ : ∃ b, fB (look (m.take i) id) = b := ⟨_, rfl⟩
        obtain ⟨Nq, hNq⟩ : ∃ b, fN (look (m.take i) id) = b := ⟨_, rfl⟩
        by_cases he : x.d = id
        · rw [if_pos he] at hln
          have HR1 : Hid (fB (look (m.take (i + 1)) id) = true ∧ fN (look (m.take (i + 1)) id) = x.pl) := hideIt (by rw [hln]; exact ⟨rfl, rfl⟩)
          have HEQ := hideIt he
          rw [hBq, hNq]
          clear hcx hrx hx1 hx2 hxi hb hln he hBq hNq HF1
          go_wp2_with (first
            | (go_at_call_of 16 (Value.pointer (some ⟨g, 0, none⟩)); refine (HF2.out g wr HI.out).mono ?_; rintro e w8 ⟨rfl, hb8⟩; have HJ8 := hideIt (HJ.out.below hb8); obtain ⟨y0, y1⟩ := HCX.out _ hb8; have B8 := hideIt hb8; clear hb8)
            | (go_at_call_of 16 (Value.pointer (some ⟨g2, 0, none⟩)); refine (HF2.out g2 w8 HJ8.out).mono ?_; rintro e w9 ⟨rfl, hb9⟩; obtain ⟨z0, z1⟩ := HCX.out _ (below2 B8.out hb9); have B9 := hideIt (below2 B8.out hb9); clear hb9; have q1 : (x.d.toList == id.toList) = true := (by rw [HEQ.out]; simp); have q2 : x.d.toList = id.toList := (by rw [HEQ.out])))
          go_roundw
          case rel => exact ⟨i + 1, by omega, by go_num, by rw [HR1.out.1], by rw [HR1.out.2], below2 HB.out B9.out⟩
          case measure => simp [intOf]; omega
        · rw [if_neg he] at hln
          have HR1 : Hid (look (m.take (i + 1)) id = look (m.take i) id) := hideIt hln
          obtain ⟨q1, q2⟩ := tl_ne he
          have HBN := hideIt (And.intro hBq hNq)
          rw [hBq, hNq]
          clear hcx hrx hx1 hx2 hxi hb hln he hBq hNq HF1
          go_wp2_with (first
            | (go_at_call_of 16 (Value.pointer (some ⟨g, 0, none⟩)); refine (HF2.out g wr HI.out).mono ?_; rintro e w8 ⟨rfl, hb8⟩; have HJ8 := hideIt (HJ.out.below hb8); obtain ⟨y0, y1⟩ := HCX.out _ hb8; have B8 := hideIt hb8; clear hb8)
            | (go_at_call_of 16 (Value.pointer (some ⟨g2, 0, none⟩)); refine (HF2.out g2 w8 HJ8.out).mono ?_; rintro e w9 ⟨rfl, hb9⟩; obtain ⟨z0, z1⟩ := HCX.out _ (below2 B8.out hb9); have B9 := hideIt (below2 B8.out hb9); clear hb9))
          go_roundw
          case rel => exact ⟨i + 1, by omega, by go_num, by rw [HR1.out, HBN.out.1], by rw [HR1.out, HBN.out.2], below2 HB.out B9.out⟩
          case measure => simp [intOf]; omega
      · have i2 : decide ((i : Int) < (n : Int)) = false := decide_eq_false (by omega)
        obtain rfl : i = n := by omega
        rw [HLE.out]
        have HJ := hideIt (J2.out.below hb)
        have HF1 := hideIt (fun g w h => HFD.out g id w h)
        rw [fndV_is] at HF1
        generalize fB (look m id) = Bq at HF1
        generalize fN (look m id) = Nq at HF1
        clear hb
        cases Bq
        · go_wp2_with (first | (go_at_call 16; refine (HF1.out g2 _ HJ.out).mono ?_; rintro e w8 ⟨rfl, hb8⟩; have B8 := hideIt (below2 HB.out hb8); clear hb8))
          go_ret
          exact ⟨rfl, below2 B1.out B8.out⟩
        · go_wp2_with (first | (go_at_call 16; refine (HF1.out g2 _ HJ.out).mono ?_; rintro e w8 ⟨rfl, hb8⟩; have B8 := hideIt (below2 HB.out hb8); clear hb8))
          go_ret
          exact ⟨rfl, below2 B1.out B8.out⟩
end Go.Proofs.YtllpfpbpdgpnkaaDoor.Ix
