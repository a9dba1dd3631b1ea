/- Make, walked: how a text is made of another one is what the document says. -/
import Derived.Test.YtdbbgpcjclmelaaGreatDoorDeDmb
import Derived.Maps.OwnSet
import Derived.Deep.RegionLaw
namespace Go.Proofs.YtdbbgpcjclmelaaGreatDoor.De
open Cb
open Go.RowKit Go.Shelf
namespace Dl
/-- Where fewer than sixteen bytes are left nothing is taken of the base. -/
theorem tell_late {base s : List UInt8} {told : Nat} : ∀ (d i : Nat), s.length - i = d → s.length < i + 16 → tell base s told i = putL (s.drop told)
  | 0, i, h, _ => tell_end (by omega)
  | d + 1, i, h, h16 => by
    rw [tell_none (by omega) (by rw [at16, if_neg (by omega)])]
    exact tell_late d (i + 1) (by omega) (by omega)
/-- How many bytes go on the same, from the block on. -/
theorem run_same {base s : List UInt8} {i k : Nat} (h : at16 base s i = some k) : same (base.drop k) (s.drop i) = run base s i k := by
  obtain ⟨h1, h2, h3⟩ := at16_some h
  have e : ∀ (n : Nat) (a b : List UInt8), a.take n = b.take n → n ≤ a.length → n ≤ b.length → same a b = n + same (a.drop n) (b.drop n) := by
    intro n
    induction n with
    | zero => intro a b _ _ _; simp
    | succ n ih =>
      intro a b hab ha hb
      cases a with
      | nil => simp at ha
      | cons x a =>
        cases b with
        | nil => simp at hb
        | cons y b =>
          simp only [List.take_succ_cons, List.cons.injEq] at hab
          rw [same, if_pos hab.1, ih a b hab.2 (by simpa using ha) (by simpa using hb)]
          simp only [List.drop_succ_cons]
          omega
  have comm : ∀ a b : List UInt8, same a b = same b a := by
    intro a
    induction a with
    | nil => intro b; cases b <;> simp [same]
    | cons x a ih =>
      intro b
      cases b with
      | nil => simp [same]
      | cons y b =>
        rw [same, same, ih b]
        by_cases hxy : x = y
        · rw [if_pos hxy, if_pos hxy.symm]
        · rw [if_neg hxy, if_neg (Ne.symm hxy)]
  rw [e 16 _ _ h3 (by rw [List.length_drop]; omega) (by rw [List.length_drop]; omega), List.drop_drop, List.drop_drop, run, comm]
end Dl
abbrev MapAt (w : World) (g n : Nat) (D : DataW Value) : Prop := w.ownsMap Tryz.prog 9 (plainElem (H := Value) Tryz.prog 3) g n D
structure MkMem (N gM nD : Nat) (D : DataW Value) (L : List UInt8) (v : Value) (w0 w : World) : Prop where
  below : Below N w0 w
  size : N ≤ w.heap.size
  own : w.ownsRow N 5 1 v L.length (u8s L)
  map : MapAt w gM nD D
theorem map_keep {w w' : World} {g n : Nat} {D : DataW Value} (h : MapAt w g n D) (hk : ∀ o, (∀ cs fr, o ≠ .cells cs 5 fr) → w.heap[g]? = some o → w'.heap[g]? = some o) : MapAt w' g n D := by
  obtain ⟨es, ck, hh, r⟩ := h
  exact ⟨es, ck, hk _ (fun _ _ e => by cases e) hh, r⟩
theorem MkMem.next {N gM nD : Nat} {D : DataW Value} {L L' : List UInt8} {v v' : Value} {w0 w w' : World} (h : MkMem N gM nD D L v w0 w) (k : Grew N w w' v' L') : MkMem N gM nD D L' v' w0 w' :=
  ⟨h.below.trans k.below, Nat.le_trans h.size k.below.size, k.own, map_keep h.map (k.keep gM)⟩
theorem MkMem.under {N gM nD : Nat} {D : DataW Value} {L : List UInt8} {v : Value} {w0 w w' : World} (h : MkMem N gM nD D L v w0 w) (k : Below w.heap.size w w') : MkMem N gM nD D L v w0 w' :=
  ⟨h.below.trans (k.mono h.size), Nat.le_trans h.size k.size, own_keep h.own k.block, map_keep h.map (fun o _ hg => by rw [k.block _ (Array.getElem?_eq_some_iff.1 hg).1]; exact hg)⟩
theorem data_mid9 (s : ByteArray) (i j : Nat) : (s.extract i j).data.toList = (s.data.toList.drop i).take (j - i) := by
  rw [ByteArray.data_extract, Array.toList_extract, List.extract_eq_take_drop]
theorem data_rest9 (s : ByteArray) (k : Nat) : (s.extract k s.size).data.toList = s.data.toList.drop k := by
  rw [data_mid9, List.take_of_length_le (by rw [List.length_drop, str_len]; omega)]
set_option maxHeartbeats 1600000 in
set_option maxRecDepth 100000 in
theorem make_s (b s : ByteArray) (w : World) (hb : b.size ≤ 1000000) (hs : s.size ≤ 1000000) :
    Calls Tryz.prog 19 #[.string b, .string s] w fun e w' => e = .returned (.string (bs (Dl.make b.data.toList s.data.toList))) ∧ Below w.heap.size w w' := by
  obtain ⟨n, hn⟩ : ∃ n, s.size = n := ⟨_, rfl⟩
  obtain ⟨nb, hnb⟩ : ∃ n, b.size = n := ⟨_, rfl⟩
  have si : (s.size : Int) = (n : Int) := by omega
  have bi : (b.size : Int) = (nb : Int) := by omega
  have ni : (n : Int) ≤ 1000000 := by omega
  have nbi : (nb : Int) ≤ 1000000 := by omega
  obtain ⟨N, hN⟩ : ∃ N, w.heap.size = N := ⟨_, rfl⟩
  obtain ⟨m, hm⟩ : ∃ m, b.size / 16 = m := ⟨_, rfl⟩
  have hb8 : b.size ≤ 100000000 := by omega
  have HP := hideIt (fun w => places_any b w hb8)
  rw [hm] at HP
  obtain ⟨D, hD⟩ : ∃ D, plD (blks b hb8 m) = D := ⟨_, rfl⟩
  rw [hD] at HP
  obtain ⟨B, hB⟩ : ∃ L, b.data.toList = L := ⟨_, rfl⟩
  obtain ⟨L, hL⟩ : ∃ L, s.data.toList = L := ⟨_, rfl⟩
  have hBl : B.length = nb := by rw [← hB, str_len, hnb]
  have hlen : L.length = n := by rw [← hL, str_len, hn]
  have HD : Hid (∀ k : ByteArray, match Dl.blk B k.data.toList with
      | none => Maps.has D (key9 k) = false
      | some p => Maps.has D (key9 k) = true ∧ D.atKey (key9 k) (.lit (.int .i64 0)) = .lit (.int .i64 (p : Int))) := by
    refine hideIt (fun k => ?_)
    have := plD_look b hb8 k m (by omega)
    rw [hD, hB, ← fstB_blk (by rw [← hB, str_len]; exact hm)] at this
    exact this
  have HA := hideIt (fun (m : Nat) (v : Value) (O : List UInt8) (w : World) => appnum_any N m v O w)
  have HAP := hideIt (fun (t : ByteArray) (v : Value) (O : List UInt8) (w : World) => appput_any N t v O w)
  have HAT := hideIt (fun (k r : Nat) (v : Value) (O : List UInt8) (w : World) => apptaken_any N k r v O w)
  have H0 := hideIt (appnum_any N nb (.slice none 0 0) [] w ⟨by simp [u8s], Or.inl ⟨rfl, rfl⟩⟩ (by omega) (by omega) (by simp))
  have l4 := numL_four nb (by omega)
  have l5 := numL_four n (by omega)
  obtain ⟨N1, hN1⟩ : ∃ X, ([] : List UInt8) ++ Cd.numL nb = X := ⟨_, rfl⟩
  obtain ⟨N2, hN2⟩ : ∃ X, N1 ++ Cd.numL n = X := ⟨_, rfl⟩
  have l6 : N1.length ≤ 5 := by rw [← hN1]; exact l4
  have l7 : N2.length ≤ 10 := by rw [← hN2, List.length_append]; omega
  rw [hN1] at H0
  have HN1 : Hid (∀ (v : Value) (w1 : World), Grew N w w1 v N1 → Calls Tryz.prog 31 #[v, .int .i64 (n : Int)] w1 fun e w' => ∃ v', e = .returned v' ∧ Grew N w w' v' N2) := by
    refine hideIt (fun v w1 h1 => ?_)
    have := HA.out n v N1 w1 h1.own (by have := h1.below.size; omega) (by omega) (by omega)
    rw [hN2] at this
    exact this.mono (by rintro e w' ⟨v', rfl, h2⟩; exact ⟨v', rfl, h1.trans h2⟩)
  have HMK : Hid (Dl.make B L = N2 ++ Dl.tell B L 0 0) := by
    refine hideIt ?_
    rw [Dl.make, hBl, hlen, ← hN2, ← hN1, List.nil_append]
  rw [hB, hL, hN]
  have HLL := hideIt (And.intro (And.intro hL hlen) (And.intro hB hBl))
  have HL7 := hideIt l7
  clear hn hnb hL hlen hB hBl hN1 hN2 l4 l5 l6 l7 hD hm hb8
  have HS := hideIt (And.intro hb hs)
  clear hb hs
  go_enter Tryz.func19, Tryz.ntmps19
  go_wp2_with (first | (go_at_call_of 31 (Value.slice none 0 0); refine H0.out.mono ?_; rintro e w1 ⟨v1, rfl, hg1⟩) | (go_at_call 31; refine (HN1.out _ _ hg1).mono ?_; rintro e w2 ⟨v2, rfl, hg2⟩) | (go_at_call 32; refine (HP.out _).mono ?_; rintro e w3 ⟨rfl, ho3, hb3⟩))
  have HM0 : Hid (MkMem N w2.heap.size m D N2 v2 w w3) := by
    refine hideIt ⟨hg2.below.trans (hb3.mono (by have := hg2.below.size; omega)), by have := hg2.below.size; have := hb3.size; omega, own_keep hg2.own hb3.block, ho3⟩
  clear hg1 hg2 hb3 ho3 H0 HN1 HP
  obtain ⟨gM, hgM⟩ : ∃ g, w2.heap.size = g := ⟨_, rfl⟩
  rw [hgM] at HM0 ⊢
  clear hgM
  go_loopw [5, 7, 8] (fun v a t wr => ∃ (i told : Nat) (out : List UInt8), told ≤ i ∧ i ≤ n ∧ t = .int .i64 i ∧ a = .int .i64 told ∧ Dl.make B L = out ++ Dl.tell B L told i ∧ out.length ≤ 20 + 2 * told ∧ MkMem N gM m D out v w wr) (fun _ _ t _ => n - (intOf t).toNat)
  case atStart => exact ⟨0, 0, N2, by omega, by omega, rfl, rfl, HMK.out, by have := HL7.out; omega, HM0.out⟩
  case round =>
    obtain ⟨i, told, out, h1, h2, rfl, rfl, ht, ho, hr⟩ := hrel
    clear HM0 HMK
    obtain ⟨d, hd⟩ : ∃ d, n - i = d := ⟨_, rfl⟩
    have d1 : (n : Int) - (i : Int) = (d : Int) := by omega
    by_cases h16 : i + 16 ≤ n
    · have c16 : (16 : Int) ≤ (d : Int) := by omega
      obtain ⟨j, hj⟩ : ∃ j, i + 16 = j := ⟨_, rfl⟩
      have j1 : (i : Int) + 16 = (j : Int) := by omega
      have j2 : (j : Int) ≤ (n : Int) := by omega
      have j3 : (i : Int) ≤ (j : Int) := by omega
      have j4 : (j : Int) ≤ 1000016 := by omega
      obtain ⟨E, hE⟩ : ∃ E, s.extract i j = E := ⟨_, rfl⟩
      have hEd : E.data.toList = Dl.six L i := by rw [← hE, data_mid9, HLL.out.1.1, ← hj, Nat.add_sub_cancel_left]; rfl
      have hEs : E.size ≤ 100000000 := by rw [← hE, ByteArray.size_extract]; have := HS.out; omega
      have hkey := keyS9 E hEs
      have hlk := HD.out E
      rw [hEd] at hlk
      have hat : Dl.at16 B L i = Dl.blk B (Dl.six L i) := by rw [Dl.at16, if_pos (by rw [HLL.out.1.2]; exact h16)]
      cases hbk : Dl.blk B (Dl.six L i) with
      | none =>
        rw [hbk] at hlk hat
        simp only at hlk
        have HT := hideIt ht
        rw [Dl.tell_none (by rw [HLL.out.1.2]; omega) hat] at HT
        have HR := hideIt hr
        have HO := hideIt ho
        have hmap := hr.map
        have i9 : (i : Int) ≤ 1000000 := by omega
        clear hr ht ho hat hbk hEd hd hj
        go_wp2_with (at_lookup; refine wpList_lookup_own_ok_int _ rfl _ _ 59 rfl 9 3 .i64 (Go.Maps.string_keyed Tryz.underlying9) Tryz.underlying59 Tryz.underlying3 (Tryz.zeroValue3 _) gM m D rfl hmap _ _ rfl hkey ?_; intro c _ _; rw [hlk])
        go_roundw
        case rel => exact ⟨i + 1, told, out, by omega, by omega, by go_num, rfl, HT.out, HO.out, HR.out⟩
        case measure => simp [intOf]; omega
      | some k =>
        rw [hbk] at hlk hat
        simp only at hlk
        obtain ⟨hlk1, hlk2⟩ := hlk
        obtain ⟨r1, r2, r3⟩ := Dl.run_le hat
        have rs := Dl.run_same hat
        have HT := hideIt ht
        rw [Dl.tell_some (by rw [HLL.out.1.2]; omega) hat] at HT
        obtain ⟨r, hrd⟩ : ∃ r, Dl.run B L i k = r := ⟨_, rfl⟩
        rw [hrd] at r1 r2 r3 rs HT
        rw [HLL.out.1.2] at r2
        rw [HLL.out.2.2] at r3
        have hXd : (b.extract k b.size).data.toList = B.drop k := by rw [data_rest9, HLL.out.2.1]
        have hYd : (s.extract i s.size).data.toList = L.drop i := by rw [data_rest9, HLL.out.1.1]
        obtain ⟨X, hX⟩ : ∃ X, b.extract k b.size = X := ⟨_, rfl⟩
        obtain ⟨Y, hY⟩ : ∃ Y, s.extract i s.size = Y := ⟨_, rfl⟩
        rw [hX] at hXd
        rw [hY] at hYd
        have HSM := hideIt (fun w => same9_any X Y w (by rw [← hX, ByteArray.size_extract]; have := HS.out; omega) (by rw [← hY, ByteArray.size_extract]; have := HS.out; omega))
        rw [hXd, hYd, rs] at HSM
        obtain ⟨z, hz⟩ : ∃ z, i + r = z := ⟨_, rfl⟩
        rw [hz] at HT r2
        have z1 : (i : Int) + (r : Int) = (z : Int) := by omega
        have z2 : (z : Int) ≤ 1000000 := by omega
        have k1 : (k : Int) ≤ (nb : Int) := by omega
        have k2 : (k : Int) ≤ 1000000 := by omega
        have rI : (r : Int) ≤ 1000000 := by omega
        have i2 : (i : Int) ≤ (n : Int) := by omega
        have i3 : (i : Int) ≤ 1000000 := by omega
        have t1 : (told : Int) ≤ (i : Int) := by omega
        obtain ⟨T, hTd⟩ : ∃ T, s.extract told i = T := ⟨_, rfl⟩
        have hTl : T.data.toList = (L.drop told).take (i - told) := by rw [← hTd, data_mid9, HLL.out.1.1]
        have hTs : T.size ≤ i - told := by rw [← str_len, hTl, List.length_take]; omega
        obtain ⟨O1, hO1⟩ : ∃ O, out ++ Dl.putL T.data.toList = O := ⟨_, rfl⟩
        obtain ⟨O2, hO2⟩ : ∃ O, O1 ++ Cd.numL (2 * r - 1) ++ Cd.numL k = O := ⟨_, rfl⟩
        have y1 : O1.length ≤ 20 + 2 * told + 5 + (i - told) := by
          have := putL_len T.data.toList (by rw [str_len]; omega)
          rw [str_len] at this
          rw [← hO1, List.length_append]; omega
        have y2 : O2.length ≤ 20 + 2 * told + 15 + (i - told) := by
          have q1 := numL_four (2 * r - 1) (by omega)
          have q2 := numL_four k (by omega)
          rw [← hO2, List.length_append, List.length_append]; omega
        have HO2 : Hid (Dl.make B L = O2 ++ Dl.tell B L z z) := by
          refine hideIt ?_
          rw [HT.out, ← hO2, ← hO1, hTl]
          simp only [List.append_assoc]
        have HR := hideIt hr
        have HM1 : Hid (∀ w1, MkMem N gM m D out u5 w w1 → Calls Tryz.prog 34 #[u5, .string T] w1 fun e w' => ∃ v', e = .returned v' ∧ MkMem N gM m D O1 v' w w') := by
          refine hideIt (fun w1 hr => ?_)
          have := HAP.out T u5 out w1 hr.own hr.size (by omega) (by omega)
          rw [hO1] at this
          exact this.mono (by rintro e w' ⟨v', rfl, hg⟩; exact ⟨v', rfl, hr.next hg⟩)
        have HM2 : Hid (∀ w1 v1, MkMem N gM m D O1 v1 w w1 → Calls Tryz.prog 35 #[v1, .int .i64 (k : Int), .int .i64 (r : Int)] w1 fun e w' => ∃ v', e = .returned v' ∧ MkMem N gM m D O2 v' w w') := by
          refine hideIt (fun w1 v1 hr => ?_)
          have := HAT.out k r v1 O1 w1 hr.own hr.size (by omega) (by omega) (by omega) (by omega)
          rw [hO2] at this
          exact this.mono (by rintro e w' ⟨v', rfl, hg⟩; exact ⟨v', rfl, hr.next hg⟩)
        have HZ : Hid (O2.length ≤ 20 + 2 * z ∧ z ≤ n ∧ i + r = z ∧ 16 ≤ r) := hideIt (by omega)
        have hmap := hr.map
        have HU : Hid (∀ x y : World, Below wr.heap.size wr x → Below x.heap.size x y → MkMem N gM m D out u5 w y) := hideIt (fun x y h k => (HR.out.under h).under k)
        clear hr ht ho hat hbk hEd hd hj HT HA HAP HAT hO1 hO2 y1 y2 hz hXd hYd rs hTl hTs r1 r2 r3 hrd
        go_wp2_with (at_lookup; refine wpList_lookup_own_ok_int _ rfl _ _ 59 rfl 9 3 .i64 (Go.Maps.string_keyed Tryz.underlying9) Tryz.underlying59 Tryz.underlying3 (Tryz.zeroValue3 _) gM m D rfl hmap _ _ rfl hkey ?_; intro c hc _; rw [hlk1]; have hck : c = (k : Int) := (by rw [hlk2] at hc; simpa using hc.symm); rw [hck])
        go_region_law (go_simp; go_at_call 33; refine (HSM.out _).mono ?_; rintro e w4 ⟨rfl, hb4⟩; dsimp only)
        have HM4 := hideIt (HU.out wr.drew w4 ⟨rfl, rfl, rfl, Nat.le_refl _, fun _ _ => rfl⟩ hb4)
        clear hb4 hmap
        go_wp2_with (first | (go_at_call 34; refine (HM1.out _ HM4.out).mono ?_; rintro e w5 ⟨v5, rfl, hp5⟩; have HP5 := hideIt hp5; clear hp5) | (go_at_call 35; refine (HM2.out _ _ HP5.out).mono ?_; rintro e w6 ⟨v6, rfl, hp6⟩; have HP6 := hideIt hp6; clear hp6))
        go_roundw
        case rel => exact ⟨z, z, O2, by omega, HZ.out.2.1, by rfl, by rfl, HO2.out, HZ.out.1, HP6.out⟩
        case measure => have := HZ.out; simp [intOf]; omega
    · have c16 : ¬ (16 : Int) ≤ (d : Int) := by omega
      have HT := hideIt ht
      rw [Dl.tell_late _ i rfl (by rw [HLL.out.1.2]; omega)] at HT
      have t2 : (told : Int) ≤ (n : Int) := by omega
      obtain ⟨T, hTd⟩ : ∃ T, s.extract told s.size = T := ⟨_, rfl⟩
      have hTl : T.data.toList = L.drop told := by rw [← hTd, data_rest9, HLL.out.1.1]
      have hTs : T.size ≤ n := by rw [← str_len, hTl, List.length_drop, HLL.out.1.2]; omega
      have HM : Hid (Calls Tryz.prog 34 #[u5, .string T] wr fun e w' => ∃ v', e = .returned v' ∧ (convert 54 9 v').run Tryz.prog w' = .ok (.string (bs (Dl.make B L))) w' ∧ Below N w w') := by
        refine hideIt ?_
        have := HAP.out T u5 out wr hr.own hr.size (by omega) (by omega)
        rw [hTl, ← HT.out] at this
        exact this.mono (by rintro e w' ⟨v', rfl, hg⟩; exact ⟨v', rfl, run_own hg.own, hr.below.trans hg.below⟩)
      clear hr ht ho hTl hTs hd
      go_wp2_with (first | (go_at_call 34; refine HM.out.mono ?_; rintro e w2 ⟨v2, rfl, hcv, hbb⟩))
      go_ret
      exact ⟨rfl, hbb⟩
theorem make_any (B S : List UInt8) (w : World) (hB : B.length ≤ 1000000) (hS : S.length ≤ 1000000) :
    Calls Tryz.prog 19 #[.string (bs B), .string (bs S)] w fun e w' => e = .returned (.string (bs (Dl.make B S))) ∧ Below w.heap.size w w' := by
  have := make_s (bs B) (bs S) w (by rw [bs_size]; exact hB) (by rw [bs_size]; exact hS)
  rw [bs_list, bs_list] at this
  exact this
end Go.Proofs.YtdbbgpcjclmelaaGreatDoor.De
