/- The law of what is spoilt: twins; the whole: walked. -/
import Derived.Test.YtjiigdjopcegeaaDoorPkLsp
namespace Go.Proofs.YtjiigdjopcegeaaDoor.Pk
open Cb Ld Go.RowKit Go.Shelf
theorem two_row {W : World} {g : Nat} {a b : ByteArray} (h : W.heap[g]? = some (.cells #[.string a, .string b] 9 (0, 0))) : TRow W (.slice (some ⟨g, 0, none⟩) 2 2) [a, b] := by
  refine ⟨some ⟨g, 0, none⟩, 2, rfl, by simp, ⟨by unfold maxLen; omega, fun h => by cases h⟩, fun _ => ⟨g, 0, rfl, block_lt h, fun i x hx => ?_⟩⟩
  match i, hx with
  | 0, hx => simp at hx; subst hx; exact cellAt h rfl
  | 1, hx => simp at hx; subst hx; exact cellAt h rfl
  | i + 2, hx => simp at hx
theorem twin_two {a b : ByteArray} (h1 : shaL b.data.toList = shaL a.data.toList) (h2 : b.data.toList ≠ a.data.toList) : TwinIn [a, b] :=
  ⟨1, 0, b, a, by omega, .inl (by simp), rfl, rfl, h1.symm, fun e => h2 e.symm⟩
set_option maxHeartbeats 3200000 in
set_option maxRecDepth 100000 in
theorem spoiltTwins_any (v : Value) (l0 : List It) (at_ : Int) (w : World) (h : IRow w v l0) (hs : ∀ x ∈ l0, x.b.length ≤ maxLen ∧ x.d.length ≤ maxLen) (hK : Sa.KAt w) : Calls Tryd.prog 13 #[v, .int .i64 at_] w fun e w' => BoolTo w (fun y => allOk (cutL l0) = true → Tw (cutL l0) at_ → y = true) e w' := by
  have HC := hideIt (cut_any v l0 w h hs)
  have HKW := hideIt (fun w' (hb : Below w.heap.size w w') => Sa.K_below hb (Sa.K_pos hK) hK)
  have hsm := cut_small l0
  have hln := cutL_len l0
  have HCT : Hid (∀ e w', CutTo w l0 e w' → ∃ v1 v2, e = .returned (.tuple #[v1, v2]) ∧ w'.ownsRow w.heap.size 37 3 v1 (cutL l0).length (itsV (cutL l0)) ∧ w'.ownsRow w.heap.size 38 3 v2 (cutL l0).length (itsV (cutL l0)) ∧ Below w.heap.size w w') := hideIt (fun _ _ h => h)
  obtain ⟨l, hl⟩ : ∃ l, cutL l0 = l := ⟨_, rfl⟩
  rw [hl] at hsm hln HCT ⊢
  obtain ⟨T, hT⟩ : ∃ T : Bool → Prop, (fun y => allOk l = true → Tw l at_ → y = true) = T := ⟨_, rfl⟩
  rw [hT]
  have HT1 : Hid (allOk l = false → ∀ y, T y) := hideIt (by rw [← hT]; exact fun h y h1 => by rw [h] at h1; cases h1)
  have HT2 : Hid (∀ y, (Tw l at_ → y = true) → T y) := hideIt (by rw [← hT]; exact fun y h _ h2 => h h2)
  have HT : Hid (∀ e w', BoolTo w T e w' ↔ (∃ y, e = .returned (.bool y) ∧ T y) ∧ Below w.heap.size w w') := hideIt (fun _ _ => Iff.rfl)
  clear hT
  have HB := hideIt (fun v w h => refbuild_any v l w h (by omega) (fun x hx => by have := (hsm x hx).1; omega) (body_small l hsm (by omega)))
  have HBV : Hid (bldV l = if allOk l = true then .tuple #[.string (bs (packL l)), .int .i64 0] else .tuple #[.string ⟨#[]⟩, .int .i64 1]) := hideIt rfl
  cases ha : allOk l with
  | false =>
    have HV : Hid (bldV l = .tuple #[.string ⟨#[]⟩, .int .i64 1]) := hideIt (by rw [HBV.out, ha]; rfl)
    rw [HV.out] at HB
    have HTF := hideIt (HT1.out ha)
    clear hl ha hK h hs hsm
    go_enter Tryd.func13, Tryd.ntmps13
    go_wp2_with (first
      | (go_at_call 6; refine HC.out.mono ?_; rintro e w1 hct; obtain ⟨v1, v2, rfl, hr1, hr2, hb1⟩ := HCT.out _ _ hct; have R1 := hideIt (IRow.of_row hr2); have B1 := hideIt hb1; clear hct hr1 hr2 hb1)
      | (go_at_call 8; refine (HB.out _ _ R1.out).mono ?_; rintro e w2 ⟨rfl, hb2⟩; have B2 := hideIt (below2 B1.out hb2); clear hb2))
    go_ret
    exact (HT.out _ _).2 ⟨⟨_, rfl, HTF.out _⟩, B2.out⟩
  | true =>
    have HV : Hid (bldV l = .tuple #[.string (bs (packL l)), .int .i64 0]) := hideIt (by rw [HBV.out, ha]; rfl)
    rw [HV.out] at HB
    have hbody := body_small l hsm (by omega)
    have HSPO : Hid (Tw l at_ → shaL ((flp (packL l) (kOf at_ (packL l).length)).take ((packL l).length - 32)) = shaL (bodyL l) ∧ (flp (packL l) (kOf at_ (packL l).length)).take ((packL l).length - 32) ≠ bodyL l) := hideIt (fun h => h)
    obtain ⟨hp1, hp2, hp3⟩ := pack_parts l
    have hlen : (packL l).length ≤ 10000000 := by omega
    obtain ⟨L, hL⟩ : ∃ L, (packL l).length = L := ⟨_, rfl⟩
    have hL32 : 32 ≤ L := by omega
    obtain ⟨hk1, hk2, hk3, hk4, hk5, hk6⟩ := kOf_lt at_ L (by omega)
    rw [hL] at HSPO
    obtain ⟨k, hk⟩ : ∃ k, kOf at_ L = k := ⟨_, rfl⟩
    rw [hk] at HSPO hk1 hk2
    have hfl := flp_len (packL l) k (by omega)
    have hqs : (bs (flp (packL l) k)).size = L := by rw [bs_size, hfl, hL]
    have exq := take_bs (flp (packL l) k) (L - 32)
    have exp := take_bs (packL l) (L - 32)
    rw [hL] at hp2
    rw [hp2] at exp
    have hq : bs (flp (packL l) k) = bs ((packL l).take k) ++ ⟨#[(packL l).getD k 0 ^^^ 1]⟩ ++ bs ((packL l).drop (k + 1)) := by
      rw [flp, show (⟨#[(packL l).getD k 0 ^^^ 1]⟩ : ByteArray) = bs [(packL l).getD k 0 ^^^ 1] from rfl, bs_append, bs_append]
      simp
    have ex1 := take_bs (packL l) k
    have ex2 := drop_bs (packL l) (k + 1)
    have hPs : (bs (packL l)).size = L := by rw [bs_size, hL]
    have hts : (bs ((packL l).take k)).size ≤ 10000000 := by rw [bs_size, List.length_take]; omega
    have hds : (bs ((packL l).drop (k + 1))).size ≤ 10000000 := by rw [bs_size, List.length_drop]; omega
    have hidx : ∃ h : k < (bs (packL l)).size, (bs (packL l))[k]'h = (packL l).getD k 0 := ⟨by rw [hPs]; omega, by
      simp only [bs, ByteArray.getElem_eq_getElem_data, List.getElem_toArray]
      simp [List.getD, show k < (packL l).length by omega]⟩
    generalize flp (packL l) k = Q at HSPO hqs exq hq
    generalize (packL l).getD k 0 = c at hq hidx
    generalize bs ((packL l).take k) = PA at hq ex1 hts
    generalize bs ((packL l).drop (k + 1)) = PB at hq ex2 hds
    generalize bs (packL l) = P at HB ex1 ex2 exp hPs hidx
    obtain ⟨hkl, hidx⟩ := hidx
    rw [hPs] at ex2
    obtain ⟨x, hx⟩ : ∃ x, c ^^^ 1 = x := ⟨_, rfl⟩
    have hx1 : bits .xor .u8 (c.toNat : Int) (1 : Int) = (x.toNat : Int) := by rw [← hx]; exact xor_byte c 1
    obtain ⟨o, ho⟩ : ∃ o, bs [x] = o := ⟨_, rfl⟩
    have so : o.size ≤ 1 := by rw [← ho, bs_size]; simp
    have hq2 : bs Q = PA ++ o ++ PB := by rw [hq, ← ho, hx]; rfl
    have hcv := run_oneD x
    rw [ho] at hcv
    have hk7 : (at_.tmod (L : Int) + (L : Int)) % (L : Int) = (k : Int) := by rw [hk1, Int.tmod_eq_emod_of_nonneg hk3]
    have t1 : ¬ 9223372036854775807 < PA.size + o.size := by omega
    have t2 : ¬ 9223372036854775807 < PA.size + o.size + PB.size := by omega
    have t3 : (PA.size : Int) ≤ 10000000 := by omega
    have t4 : (PB.size : Int) ≤ 10000000 := by omega
    have t5 : (o.size : Int) ≤ 1 := by omega
    rw [hq2] at hqs exq
    have kw : IntKind.i64.wrap ((k : Int) + 1) = (k : Int) + 1 := by rw [IntKind.wrap_i64]; omega
    have kd : decide ((k : Int) < 0) = false := decide_eq_false (by omega)
    have kg : decide ((L : Int) ≤ (k : Int)) = false := decide_eq_false (by omega)
    have k4 : (0 : Int) ≤ (k : Int) + 1 := by omega
    have k0 : (0 : Int) ≤ (k : Int) := by omega
    have HTN := hideIt (fun v w h => twins_any [bs (bodyL l), bs (Q.take (L - 32))] v w h (by simp) (fun x hx => by
      simp only [List.mem_cons, List.not_mem_nil, or_false] at hx
      rcases hx with rfl | rfl
      · rw [bs_size]; omega
      · have e : (PA ++ o ++ PB).size = Q.length := by rw [← hq2, bs_size]
        rw [bs_size, List.length_take]; omega))
    have HTI : Hid (Tw l at_ → TwinIn [bs (bodyL l), bs (Q.take (L - 32))]) := hideIt (fun h => twin_two (by rw [bs_list, bs_list]; exact (HSPO.out h).1) (by rw [bs_list, bs_list]; exact (HSPO.out h).2))
    have HTR := hideIt (fun (W : World) (g : Nat) => two_row (W := W) (g := g) (a := bs (bodyL l)) (b := bs (Q.take (L - 32))))
    obtain ⟨N, hN⟩ : ∃ N, L - 32 = N := ⟨_, rfl⟩
    rw [hN] at exq exp HTN HTI HTR
    have n1 : (L : Int) - 32 = (N : Int) := by omega
    have n2 : (N : Int) ≤ (L : Int) := by omega
    have n3 : IntKind.i64.wrap (N : Int) = (N : Int) := by rw [IntKind.wrap_i64]; omega
    have n4 : (0 : Int) ≤ (N : Int) := by omega
    generalize bs (bodyL l) = BP at exp HTN HTI HTR
    generalize bs (Q.take N) = BQ at exq HTN HTI HTR
    clear hq hq2 hx ho HSPO hN
    have hL0 : ¬ (L : Int) = 0 := by omega
    have hL1 : ¬ (L : Int) < 32 := by omega
    have hL2 : (L : Int) ≤ 10000000 := by omega
    have k1 : (k : Int) < (L : Int) := by omega
    have k2 : (k : Int) ≤ (L : Int) := by omega
    have k3 : (k : Int) + 1 ≤ (L : Int) := by omega
    have kN : k < L := by omega
    clear hl hK h hs hsm hp1 hp2 hp3 hlen hfl hbody hk1 hk2 hk
    go_enter Tryd.func13, Tryd.ntmps13
    go_wp2_with (first
      | (go_at_call 6; refine HC.out.mono ?_; rintro e w1 hct; obtain ⟨v1, v2, rfl, hr1, hr2, hb1⟩ := HCT.out _ _ hct; have R1 := hideIt (IRow.of_row hr2); have B1 := hideIt hb1; clear hct hr1 hr2 hb1)
      | (go_at_call 8; refine (HB.out _ _ R1.out).mono ?_; rintro e w2 ⟨rfl, hb2⟩; have B2 := hideIt (below2 B1.out hb2); clear hb2))
    go_region
    have B6 := hideIt (below2 B2.out (((Below.refl w2.heap.size w2).alloc (Nat.le_refl _) (.cells #[.int .u8 (x.toNat : Int)] 5)).drew))
    clear hcv ha
    generalize PA ++ o ++ PB = QQ at hqs exq ⊢
    obtain ⟨W3, hW3⟩ : ∃ W3, (w2.alloc (.cells #[.int .u8 (x.toNat : Int)] 5)).drew = W3 := ⟨_, rfl⟩
    rw [hW3] at B6
    go_wp2_with fail
    go_region_law (go_simp; go_at_call 30; refine (HTN.out _ _ (HTR.out _ _ (by first | exact alloc_at (by simp) | (simp only [heap_drew]; exact alloc_at (by simp)) | (rw [heap_drew]; exact alloc_at (by simp))))).mono ?_; rintro e w7 ⟨⟨y, rfl, hy⟩, hb7⟩; dsimp only)
    go_wp2
    go_ret
    exact (HT.out _ _).2 ⟨⟨y, rfl, HT2.out y (fun h => hy (HTI.out h))⟩, below2 B6.out (below2 (((Below.refl W3.heap.size W3).alloc (Nat.le_refl _) _).drew) hb7)⟩
set_option maxHeartbeats 1600000 in
set_option maxRecDepth 100000 in
theorem spoilt_law (v : Value) (l0 : List It) (at_ : Int) (w : World) (h : IRow w v l0) (hs : ∀ x ∈ l0, x.b.length ≤ maxLen ∧ x.d.length ≤ maxLen) (hK : Sa.KAt w) : Calls Tryd.prog 4 #[v, .int .i64 at_] w fun e w' => e = .returned (.bool true) ∧ Below w.heap.size w w' := by
  have H1 := hideIt (packSpoilt_any v l0 at_ w h hs hK)
  have H2 := hideIt (fun w' (hb : Below w.heap.size w w') => spoiltTwins_any v l0 at_ w' (h.below hb) hs (Sa.K_below hb (Sa.K_pos hK) hK))
  have HD1 : Hid (∀ e w', BoolTo w (fun y => (allOk (cutL l0) = true → ¬ Tw (cutL l0) at_) → y = true) e w' → (∃ y, e = .returned (.bool y) ∧ ((allOk (cutL l0) = true → ¬ Tw (cutL l0) at_) → y = true)) ∧ Below w.heap.size w w') := hideIt (fun _ _ h => h)
  have HD2 : Hid (∀ w1 e w', BoolTo w1 (fun y => allOk (cutL l0) = true → Tw (cutL l0) at_ → y = true) e w' → (∃ y, e = .returned (.bool y) ∧ (allOk (cutL l0) = true → Tw (cutL l0) at_ → y = true)) ∧ Below w1.heap.size w1 w') := hideIt (fun _ _ _ h => h)
  by_cases hc : allOk (cutL l0) = true ∧ Tw (cutL l0) at_
  · have H3 : Hid (∀ w', Below w.heap.size w w' → Calls Tryd.prog 13 #[v, .int .i64 at_] w' fun e w2 => e = .returned (.bool true) ∧ Below w'.heap.size w' w2) := hideIt (fun w' hb => (H2.out w' hb).mono fun e w2 h => by
      obtain ⟨⟨y, e1, e2⟩, hb2⟩ := HD2.out _ _ _ h
      rw [e2 hc.1 hc.2] at e1
      exact ⟨e1, hb2⟩)
    have H4 : Hid (Calls Tryd.prog 12 #[v, .int .i64 at_] w fun e w2 => (∃ y, e = .returned (.bool y)) ∧ Below w.heap.size w w2) := hideIt (H1.out.mono fun e w2 h => by
      obtain ⟨⟨y, e1, _⟩, hb2⟩ := HD1.out _ _ h
      exact ⟨⟨y, e1⟩, hb2⟩)
    clear hc h hs hK H1 H2 HD1 HD2
    go_enter Tryd.func4, Tryd.ntmps4
    go_wp2_with (first | (go_at_call 12; refine H4.out.mono ?_; rintro e w1 ⟨⟨y, rfl⟩, hb1⟩) | (go_at_call 13; refine (H3.out _ hb1).mono ?_; rintro e w2 ⟨rfl, hb2⟩))
    · go_ret
      exact ⟨rfl, hb1⟩
    · go_ret
      exact ⟨rfl, below2 hb1 hb2⟩
  · have H4 : Hid (Calls Tryd.prog 12 #[v, .int .i64 at_] w fun e w2 => e = .returned (.bool true) ∧ Below w.heap.size w w2) := hideIt (H1.out.mono fun e w2 h => by
      obtain ⟨⟨y, e1, e2⟩, hb2⟩ := HD1.out _ _ h
      rw [e2 (fun h1 h2 => hc ⟨h1, h2⟩)] at e1
      exact ⟨e1, hb2⟩)
    clear hc h hs hK H1 H2 HD1 HD2
    go_enter Tryd.func4, Tryd.ntmps4
    go_wp2_with (first | (go_at_call 12; refine H4.out.mono ?_; rintro e w1 ⟨rfl, hb1⟩))
    go_ret
    exact ⟨rfl, hb1⟩
end Go.Proofs.YtjiigdjopcegeaaDoor.Pk
