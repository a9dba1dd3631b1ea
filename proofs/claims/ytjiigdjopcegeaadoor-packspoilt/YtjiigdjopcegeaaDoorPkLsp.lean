/- The law of what is spoilt, walked. -/
import Derived.Test.YtjiigdjopcegeaaDoorPkLbu
import Derived.Test.YtjiigdjopcegeaaDoorPkPtw
import Derived.Laws.BitsAllLaws
namespace Go.Proofs.YtjiigdjopcegeaaDoor.Pk
open Cb Ld Go.RowKit Go.Shelf
/-- Which byte is another one. -/
def kOf (at_ : Int) (L : Nat) : Nat := ((at_.tmod L + L).tmod L).toNat
theorem kOf_lt (at_ : Int) (L : Nat) (h : 0 < L) : (kOf at_ L : Int) = (at_.tmod L + L).tmod L ∧ kOf at_ L < L ∧ 0 ≤ at_.tmod L + L ∧ at_.tmod L + L < 2 * L ∧ -(L : Int) < at_.tmod L ∧ at_.tmod L < L := by
  have h1 : -(L : Int) < at_.tmod L ∧ at_.tmod L < L := by
    have a := Int.tmod_lt_of_pos at_ (b := (L : Int)) (by omega)
    have b := Int.lt_tmod_of_pos at_ (b := (L : Int)) (by omega)
    exact ⟨b, a⟩
  have h2 : 0 ≤ (at_.tmod L + L).tmod L := Int.tmod_nonneg _ (by omega)
  have h3 := Int.tmod_lt_of_pos (at_.tmod L + L) (b := (L : Int)) (by omega)
  unfold kOf
  exact ⟨by omega, by omega, by omega, by omega, h1.1, h1.2⟩
theorem xor_byte (a b : UInt8) : bits .xor .u8 (a.toNat : Int) (b.toNat : Int) = ((a ^^^ b).toNat : Int) := by
  rw [u8_xor_nat _ _ a.toNat_lt b.toNat_lt, UInt8.toNat_xor]
theorem xor_one (a : UInt8) : a ^^^ 1 ≠ a := by
  intro h
  have := congrArg (a ^^^ ·) h
  simp [← UInt8.xor_assoc] at this
/-- A text of which one byte is another one. -/
def flp (p : List UInt8) (k : Nat) : List UInt8 := p.take k ++ (p.getD k 0 ^^^ 1) :: p.drop (k + 1)
theorem flp_split (p : List UInt8) (k : Nat) (h : k < p.length) : p = p.take k ++ p.getD k 0 :: p.drop (k + 1) := by
  conv => lhs; rw [← List.take_append_drop k p]
  congr 1
  rw [List.drop_eq_getElem_cons h]
  simp [List.getD, h]
theorem flp_len (p : List UInt8) (k : Nat) (h : k < p.length) : (flp p k).length = p.length := by
  unfold flp
  simp
  omega
theorem flp_ne (p : List UInt8) (k : Nat) (h : k < p.length) : flp p k ≠ p := by
  intro e
  have e2 := flp_split p k h
  rw [flp] at e
  have := e.trans e2
  rw [List.append_cancel_left_eq] at this
  simp only [List.cons.injEq] at this
  exact xor_one _ this.1
theorem flp_take (A B : List UInt8) (k : Nat) (h : k < A.length) : flp (A ++ B) k = flp A k ++ B := by
  unfold flp
  rw [List.take_append_of_le_length (by omega), List.drop_append_of_le_length (by omega)]
  have e : (A ++ B)[k]? = A[k]? := List.getElem?_append_left h
  simp only [List.getD, e, List.append_assoc, List.cons_append]
theorem flp_drop (A B : List UInt8) (k : Nat) (h : A.length ≤ k) : flp (A ++ B) k = A ++ flp B (k - A.length) := by
  unfold flp
  rw [List.take_append, List.take_of_length_le h, List.drop_append, List.drop_of_length_le (by omega)]
  have e1 : k + 1 - A.length = k - A.length + 1 := by omega
  rw [e1, List.append_assoc]
  simp [List.getD, List.getElem?_append_right h]
/-- Two unlike texts with one sum: the pack ahead of its sum, and the spoilt one. -/
def Tw (l : List It) (at_ : Int) : Prop := shaL ((flp (packL l) (kOf at_ (packL l).length)).take ((packL l).length - 32)) = shaL (bodyL l) ∧ (flp (packL l) (kOf at_ (packL l).length)).take ((packL l).length - 32) ≠ bodyL l
theorem spoils (l : List It) (at_ : Int) (hb : (bodyL l).length ≤ 4194272) (h : ¬ Tw l at_) (sp : List UInt8 → Nat × List UInt8) : scn sp (flp (packL l) (kOf at_ (packL l).length)) = (80, []) := by
  obtain ⟨h1, h2, h3⟩ := pack_parts l
  obtain ⟨hk1, hk, _⟩ := kOf_lt at_ (packL l).length (by omega)
  have hl := flp_len (packL l) (kOf at_ (packL l).length) hk
  have key : sumE (flp (packL l) (kOf at_ (packL l).length)) = 80 := by
    rw [sumE, hl, if_neg (by omega), if_neg (by omega), if_neg]
    intro e
    have hsl := shaL_len (bodyL l)
    by_cases hin : kOf at_ (packL l).length < (bodyL l).length
    · have e1 : flp (packL l) (kOf at_ (packL l).length) = flp (bodyL l) (kOf at_ (packL l).length) ++ shaL (bodyL l) := by
        conv => lhs; arg 1; rw [packL]
        exact flp_take _ _ _ hin
      have hbl := flp_len (bodyL l) _ hin
      have e2 : (flp (packL l) (kOf at_ (packL l).length)).take ((packL l).length - 32) = flp (bodyL l) (kOf at_ (packL l).length) := by
        rw [e1]
        exact List.take_left' (by omega)
      have e3 : (flp (packL l) (kOf at_ (packL l).length)).drop ((packL l).length - 32) = shaL (bodyL l) := by
        rw [e1]
        exact List.drop_left' (by omega)
      apply h
      rw [Tw]
      refine ⟨e.trans e3, ?_⟩
      rw [e2]
      exact flp_ne _ _ hin
    · have e1 : flp (packL l) (kOf at_ (packL l).length) = bodyL l ++ flp (shaL (bodyL l)) (kOf at_ (packL l).length - (bodyL l).length) := by
        conv => lhs; arg 1; rw [packL]
        exact flp_drop _ _ _ (by omega)
      have e2 : (flp (packL l) (kOf at_ (packL l).length)).take ((packL l).length - 32) = bodyL l := by
        rw [e1]
        exact List.take_left' (by omega)
      have e3 : (flp (packL l) (kOf at_ (packL l).length)).drop ((packL l).length - 32) = flp (shaL (bodyL l)) (kOf at_ (packL l).length - (bodyL l).length) := by
        rw [e1]
        exact List.drop_left' (by omega)
      rw [e2, e3] at e
      exact flp_ne (shaL (bodyL l)) (kOf at_ (packL l).length - (bodyL l).length) (by omega) e.symm
  rw [scn, key, if_pos (by omega)]
theorem run_oneD (u : UInt8) (w : World) : (convert 42 9 (.slice (some ⟨w.heap.size, 0, none⟩) 1 1)).run Tryd.prog (w.alloc (.cells #[.int .u8 (u.toNat : Int)] 5)).drew = .ok (.string (bs [u])) (w.alloc (.cells #[.int .u8 (u.toNat : Int)] 5)).drew :=
  run_row [u] (w.alloc (.cells #[.int .u8 (u.toNat : Int)] 5)).drew w.heap.size 5 (by rw [heap_drew]; exact alloc_at rfl) 1
def BoolTo (w : World) (T : Bool → Prop) (e : Ending) (w' : World) : Prop := (∃ y, e = .returned (.bool y) ∧ T y) ∧ Below w.heap.size w w'
set_option maxHeartbeats 3200000 in
set_option maxRecDepth 100000 in
theorem packSpoilt_any (v : Value) (l0 : List It) (at_ : Int) (w : World) (h : IRow w v l0) (hs : ∀ x ∈ l0, x.b.length ≤ maxLen ∧ x.d.length ≤ maxLen) (hK : Sa.KAt w) : Calls Tryd.prog 12 #[v, .int .i64 at_] w fun e w' => BoolTo w (fun y => (allOk (cutL l0) = true → ¬ Tw (cutL l0) at_) → y = true) e w' := by
  have HC := hideIt (cut_any v l0 w h hs)
  have HKW := hideIt (fun w' (hb : Below w.heap.size w w') => Sa.K_below hb (Sa.K_pos hK) hK)
  have hsm := cut_small l0
  have hln := cutL_len l0
  have HCT : Hid (∀ e w', CutTo w l0 e w' → ∃ v1 v2, e = .returned (.tuple #[v1, v2]) ∧ w'.ownsRow w.heap.size 37 3 v1 (cutL l0).length (itsV (cutL l0)) ∧ w'.ownsRow w.heap.size 38 3 v2 (cutL l0).length (itsV (cutL l0)) ∧ Below w.heap.size w w') := hideIt (fun _ _ h => h)
  obtain ⟨l, hl⟩ : ∃ l, cutL l0 = l := ⟨_, rfl⟩
  rw [hl] at hsm hln HCT ⊢
  obtain ⟨T, hT⟩ : ∃ T : Bool → Prop, (fun y => (allOk l = true → ¬ Tw l at_) → y = true) = T := ⟨_, rfl⟩
  rw [hT]
  have HT1 : Hid (T true) := hideIt (by rw [← hT]; exact fun _ => rfl)
  have HT2 : Hid (allOk l = true → Tw l at_ → ∀ y, T y) := hideIt (by rw [← hT]; exact fun h1 h2 y h3 => absurd h2 (h3 h1))
  have HT : Hid (∀ e w', BoolTo w T e w' ↔ (∃ y, e = .returned (.bool y) ∧ T y) ∧ Below w.heap.size w w') := hideIt (fun _ _ => Iff.rfl)
  clear hT
  have HB := hideIt (fun v w h hk => build_any v l w h hk (by omega) (fun x hx => by have := (hsm x hx).1; omega) (body_small l hsm (by omega)))
  have HA := hideIt (awake_any)
  have HBV : Hid (bldV l = if allOk l = true then .tuple #[.string (bs (packL l)), .int .i64 0] else .tuple #[.string ⟨#[]⟩, .int .i64 1]) := hideIt rfl
  cases ha : allOk l with
  | false =>
    have HV : Hid (bldV l = .tuple #[.string ⟨#[]⟩, .int .i64 1]) := hideIt (by rw [HBV.out, ha]; rfl)
    rw [HV.out] at HB
    clear hl ha hK h hs hsm
    go_enter Tryd.func12, Tryd.ntmps12
    go_wp2_with (first
      | (go_at_call 6; refine HC.out.mono ?_; rintro e w1 hct; obtain ⟨v1, v2, rfl, hr1, hr2, hb1⟩ := HCT.out _ _ hct; have R1 := hideIt (IRow.of_row hr1); have B1 := hideIt hb1; clear hct hr1 hr2 hb1)
      | (go_at_call 7; refine (HB.out _ _ R1.out (HKW.out _ B1.out)).mono ?_; rintro e w2 ⟨rfl, hb2⟩; have B2 := hideIt (below2 B1.out hb2); clear hb2)
      | (go_at_call 9; refine (HA.out _ (HKW.out _ B2.out)).mono ?_; rintro e w4 ⟨rfl, hb4⟩; have B4 := hideIt (below2 B2.out hb4); clear B2; have B2 := B4; clear B4 hb4))
    go_ret
    exact (HT.out _ _).2 ⟨⟨true, rfl, HT1.out⟩, B2.out⟩
  | true =>
    have HV : Hid (bldV l = .tuple #[.string (bs (packL l)), .int .i64 0]) := hideIt (by rw [HBV.out, ha]; rfl)
    rw [HV.out] at HB
    have hbody := body_small l hsm (by omega)
    have HSPO := hideIt (fun (h : ¬ Tw l at_) sp => spoils l at_ hbody h sp)
    obtain ⟨hp1, hp2, hp3⟩ := pack_parts l
    have hlen : (packL l).length ≤ 10000000 := by omega
    obtain ⟨L, hL⟩ : ∃ L, (packL l).length = L := ⟨_, rfl⟩
    have hL32 : 32 ≤ L := by omega
    obtain ⟨hk1, hk2, hk3, hk4, hk5, hk6⟩ := kOf_lt at_ L (by omega)
    rw [hL] at HSPO
    obtain ⟨k, hk⟩ : ∃ k, kOf at_ L = k := ⟨_, rfl⟩
    rw [hk] at HSPO hk1 hk2
    have hfl := flp_len (packL l) k (by omega)
    have HSC := hideIt (fun w hk => scan_any (flp (packL l) k) w hk (by omega))
    have HRS := hideIt (fun w => refscan_any (flp (packL l) k) w (by omega))
    have hq : bs (flp (packL l) k) = bs ((packL l).take k) ++ ⟨#[(packL l).getD k 0 ^^^ 1]⟩ ++ bs ((packL l).drop (k + 1)) := by
      rw [flp, show (⟨#[(packL l).getD k 0 ^^^ 1]⟩ : ByteArray) = bs [(packL l).getD k 0 ^^^ 1] from rfl, bs_append, bs_append]
      simp
    have ex1 := take_bs (packL l) k
    have ex2 := drop_bs (packL l) (k + 1)
    have hPs : (bs (packL l)).size = L := by rw [bs_size, hL]
    have hts : (bs ((packL l).take k)).size ≤ 10000000 := by rw [bs_size, List.length_take]; omega
    have hds : (bs ((packL l).drop (k + 1))).size ≤ 10000000 := by rw [bs_size, List.length_drop]; omega
    have hidx : ∃ h : k < (bs (packL l)).size, (bs (packL l))[k]'h = (packL l).getD k 0 := ⟨by rw [hPs]; omega, by
      simp only [bs, ByteArray.getElem_eq_getElem_data, List.getElem_toArray]
      simp [List.getD, show k < (packL l).length by omega]⟩
    generalize flp (packL l) k = Q at HSPO HSC HRS hq
    generalize (packL l).getD k 0 = c at hq hidx
    generalize bs ((packL l).take k) = PA at hq ex1 hts
    generalize bs ((packL l).drop (k + 1)) = PB at hq ex2 hds
    generalize bs (packL l) = P at HB ex1 ex2 hPs hidx
    obtain ⟨hkl, hidx⟩ := hidx
    rw [hPs] at ex2
    obtain ⟨x, hx⟩ : ∃ x, c ^^^ 1 = x := ⟨_, rfl⟩
    have hx1 : bits .xor .u8 (c.toNat : Int) (1 : Int) = (x.toNat : Int) := by rw [← hx]; exact xor_byte c 1
    obtain ⟨o, ho⟩ : ∃ o, bs [x] = o := ⟨_, rfl⟩
    have so : o.size ≤ 1 := by rw [← ho, bs_size]; simp
    have hq2 : bs Q = PA ++ o ++ PB := by rw [hq, ← ho, hx]; rfl
    have hcv := run_oneD x
    rw [ho] at hcv
    have hk7 : (at_.tmod (L : Int) + (L : Int)) % (L : Int) = (k : Int) := by rw [hk1, Int.tmod_eq_emod_of_nonneg hk3]
    have t1 : ¬ 9223372036854775807 < PA.size + o.size := by omega
    have t2 : ¬ 9223372036854775807 < PA.size + o.size + PB.size := by omega
    have t3 : (PA.size : Int) ≤ 10000000 := by omega
    have t4 : (PB.size : Int) ≤ 10000000 := by omega
    have t5 : (o.size : Int) ≤ 1 := by omega
    rw [hq2] at HSC HRS
    have kw : IntKind.i64.wrap ((k : Int) + 1) = (k : Int) + 1 := by rw [IntKind.wrap_i64]; omega
    have kd : decide ((k : Int) < 0) = false := decide_eq_false (by omega)
    have kg : decide ((L : Int) ≤ (k : Int)) = false := decide_eq_false (by omega)
    have k4 : (0 : Int) ≤ (k : Int) + 1 := by omega
    have k0 : (0 : Int) ≤ (k : Int) := by omega
    clear hq hq2 hx ho
    have hL0 : ¬ (L : Int) = 0 := by omega
    have hL1 : ¬ (L : Int) < 32 := by omega
    have hL2 : (L : Int) ≤ 10000000 := by omega
    have k1 : (k : Int) < (L : Int) := by omega
    have k2 : (k : Int) ≤ (L : Int) := by omega
    have k3 : (k : Int) + 1 ≤ (L : Int) := by omega
    have kN : k < L := by omega
    clear hl hK h hs hsm hp1 hp2 hp3 hlen hfl hbody hk1 hk2 hk
    go_enter Tryd.func12, Tryd.ntmps12
    go_wp2_with (first
      | (go_at_call 6; refine HC.out.mono ?_; rintro e w1 hct; obtain ⟨v1, v2, rfl, hr1, hr2, hb1⟩ := HCT.out _ _ hct; have R1 := hideIt (IRow.of_row hr1); have B1 := hideIt hb1; clear hct hr1 hr2 hb1)
      | (go_at_call 7; refine (HB.out _ _ R1.out (HKW.out _ B1.out)).mono ?_; rintro e w2 ⟨rfl, hb2⟩; have B2 := hideIt (below2 B1.out hb2); clear hb2)
      | (go_at_call 9; refine (HA.out _ (HKW.out _ B2.out)).mono ?_; rintro e w4 ⟨rfl, hb4⟩; have B4 := hideIt (below2 B2.out hb4); clear hb4))
    go_region
    have B6 := hideIt (below2 B4.out (((Below.refl w4.heap.size w4).alloc (Nat.le_refl _) (.cells #[.int .u8 (x.toNat : Int)] 5)).drew))
    clear hcv
    generalize PA ++ o ++ PB = QQ at HSC HRS ⊢
    by_cases hTw : Tw l at_
    · obtain ⟨a, A, hr1⟩ : ∃ a A, scn spPp Q = (a, A) := ⟨_, _, rfl⟩
      obtain ⟨b, Bl, hr2⟩ : ∃ b B, scn spRr Q = (b, B) := ⟨_, _, rfl⟩
      rw [hr1] at HSC
      rw [hr2] at HRS
      have HTT := hideIt (HT2.out ha hTw)
      clear hTw ha hr1 hr2 HSPO
      have s1 : ((a : Int) = (b : Int) ∧ ((a : Int) == (b : Int)) = true) ∨ (¬ (a : Int) = (b : Int) ∧ ((a : Int) == (b : Int)) = false) := by
        by_cases g : (a : Int) = (b : Int)
        · exact .inl ⟨g, by simpa using g⟩
        · exact .inr ⟨g, by simpa using g⟩
      have s2 : ((b : Int) = 0 ∧ b = 0) ∨ (¬ (b : Int) = 0 ∧ ((b : Int) == 0) = false) := by
        by_cases g : (b : Int) = 0
        · exact .inl ⟨g, by omega⟩
        · exact .inr ⟨g, by simpa using g⟩
      obtain ⟨n7, hn7⟩ : ∃ n, A.length = n := ⟨_, rfl⟩
      obtain ⟨n8, hn8⟩ : ∃ n, Bl.length = n := ⟨_, rfl⟩
      have s3 : n7 = 0 ∨ (¬ (n7 : Int) = 0 ∧ ((n7 : Int) == 0) = false) := by
        by_cases g : n7 = 0
        · exact .inl g
        · exact .inr ⟨by omega, by simpa using g⟩
      have s4 : n8 = 0 ∨ (¬ (n8 : Int) = 0 ∧ ((n8 : Int) == 0) = false) := by
        by_cases g : n8 = 0
        · exact .inl g
        · exact .inr ⟨by omega, by simpa using g⟩
      rcases s1 with ⟨g1, g2⟩ | ⟨g1, g2⟩
      · obtain rfl : a = b := by omega
        rcases s2 with ⟨g3, g4⟩ | ⟨g3, g4⟩
        · subst g4
          go_wp2_with (first | (go_at_call 10; refine (HSC.out _ (HKW.out _ B6.out)).mono ?_; rintro e w7 ⟨v7, rfl, hv7, hb7⟩; have B7 := hideIt (below2 B6.out hb7); obtain ⟨a7, c7, rfl, _, _, _⟩ := IRow.of_row hv7; clear hv7 hb7) | (go_at_call 11; refine (HRS.out _).mono ?_; rintro e w8 ⟨v8, rfl, hv8, hb8⟩; have B8 := hideIt (below2 B7.out hb8); obtain ⟨a8, c8, rfl, _, _, _⟩ := IRow.of_row hv8; clear hv8 hb8))
          go_ret
          exact (HT.out _ _).2 ⟨⟨_, rfl, HTT.out _⟩, B8.out⟩
        · rcases s3 with g5 | ⟨g5, g6⟩
          · subst g5
            rcases s4 with g7 | ⟨g7, g8⟩
            · subst g7
              go_wp2_with (first | (go_at_call 10; refine (HSC.out _ (HKW.out _ B6.out)).mono ?_; rintro e w7 ⟨v7, rfl, hv7, hb7⟩; have B7 := hideIt (below2 B6.out hb7); obtain ⟨a7, c7, rfl, _, _, _⟩ := IRow.of_row hv7; clear hv7 hb7) | (go_at_call 11; refine (HRS.out _).mono ?_; rintro e w8 ⟨v8, rfl, hv8, hb8⟩; have B8 := hideIt (below2 B7.out hb8); obtain ⟨a8, c8, rfl, _, _, _⟩ := IRow.of_row hv8; clear hv8 hb8))
              go_ret
              exact (HT.out _ _).2 ⟨⟨_, rfl, HTT.out _⟩, B8.out⟩
            · go_wp2_with (first | (go_at_call 10; refine (HSC.out _ (HKW.out _ B6.out)).mono ?_; rintro e w7 ⟨v7, rfl, hv7, hb7⟩; have B7 := hideIt (below2 B6.out hb7); obtain ⟨a7, c7, rfl, _, _, _⟩ := IRow.of_row hv7; clear hv7 hb7) | (go_at_call 11; refine (HRS.out _).mono ?_; rintro e w8 ⟨v8, rfl, hv8, hb8⟩; have B8 := hideIt (below2 B7.out hb8); obtain ⟨a8, c8, rfl, _, _, _⟩ := IRow.of_row hv8; clear hv8 hb8))
              go_ret
              exact (HT.out _ _).2 ⟨⟨_, rfl, HTT.out _⟩, B8.out⟩
          · go_wp2_with (first | (go_at_call 10; refine (HSC.out _ (HKW.out _ B6.out)).mono ?_; rintro e w7 ⟨v7, rfl, hv7, hb7⟩; have B7 := hideIt (below2 B6.out hb7); obtain ⟨a7, c7, rfl, _, _, _⟩ := IRow.of_row hv7; clear hv7 hb7) | (go_at_call 11; refine (HRS.out _).mono ?_; rintro e w8 ⟨v8, rfl, hv8, hb8⟩; have B8 := hideIt (below2 B7.out hb8); obtain ⟨a8, c8, rfl, _, _, _⟩ := IRow.of_row hv8; clear hv8 hb8))
            go_ret
            exact (HT.out _ _).2 ⟨⟨_, rfl, HTT.out _⟩, B8.out⟩
      · go_wp2_with (first | (go_at_call 10; refine (HSC.out _ (HKW.out _ B6.out)).mono ?_; rintro e w7 ⟨v7, rfl, hv7, hb7⟩; have B7 := hideIt (below2 B6.out hb7); obtain ⟨a7, c7, rfl, _, _, _⟩ := IRow.of_row hv7; clear hv7 hb7) | (go_at_call 11; refine (HRS.out _).mono ?_; rintro e w8 ⟨v8, rfl, hv8, hb8⟩; have B8 := hideIt (below2 B7.out hb8); obtain ⟨a8, c8, rfl, _, _, _⟩ := IRow.of_row hv8; clear hv8 hb8))
        go_ret
        exact (HT.out _ _).2 ⟨⟨_, rfl, HTT.out _⟩, B8.out⟩
    · rw [HSPO.out hTw spPp] at HSC
      rw [HSPO.out hTw spRr] at HRS
      clear hTw ha HSPO
      go_wp2_with (first | (go_at_call 10; refine (HSC.out _ (HKW.out _ B6.out)).mono ?_; rintro e w7 ⟨v7, rfl, hv7, hb7⟩; have B7 := hideIt (below2 B6.out hb7); obtain ⟨a7, c7, rfl, _, _, _⟩ := IRow.of_row hv7; clear hv7 hb7) | (go_at_call 11; refine (HRS.out _).mono ?_; rintro e w8 ⟨v8, rfl, hv8, hb8⟩; have B8 := hideIt (below2 B7.out hb8); obtain ⟨a8, c8, rfl, _, _, _⟩ := IRow.of_row hv8; clear hv8 hb8))
      go_ret
      exact (HT.out _ _).2 ⟨⟨true, rfl, HT1.out⟩, B8.out⟩
end Go.Proofs.YtjiigdjopcegeaaDoor.Pk
