/- Packs, the document's: an item's bytes, the pack of items: walked. -/
import Derived.Test.YtjiigdjopcegeaaDoorPkKy
import Derived.Test.YtjiigdjopcegeaaDoorPyAll
import Derived.Test.YtjiigdjopcegeaaDoorLdRefp4
import Derived.Test.YtjiigdjopcegeaaDoorCbRefm
namespace Go.Proofs.YtjiigdjopcegeaaDoor.Pk
open Cb Ld Go.RowKit Go.Shelf
set_option maxHeartbeats 1600000 in
set_option maxRecDepth 100000 in
theorem refPut_any (x : It) (w : World) (hd : x.d.length ≤ 1048576) (hb : x.b.length ≤ 10000) (hpl : (Lz.press x.d).length ≤ 10000000) :
    Calls Tryd.prog 20 #[.agg #[.string (bs x.b), .string (bs x.d), .int .i64 x.pl]] w fun e w' => e = .returned (.string (bs (itemL x))) ∧ Below w.heap.size w w' := by
  have HPR := hideIt (fun w => refpress_any (bs x.d) w (by rw [bs_size]; exact hd))
  rw [bs_list] at HPR
  have HN := hideIt (fun w => refnum_any (Lz.press x.d).length w (by omega))
  have hnl := num_le (Lz.press x.d).length (by omega)
  have HI : Hid (bs (itemL x) = bs (headL x.b) ++ bs (Cd.numL (Lz.press x.d).length) ++ bs (Lz.press x.d)) := hideIt (by rw [itemL, bs_append, bs_append])
  have hps : (bs (Lz.press x.d)).size = (Lz.press x.d).length := bs_size _
  have hns : (bs (Cd.numL (Lz.press x.d).length)).size = (Cd.numL (Lz.press x.d).length).length := bs_size _
  have hbs : (bs x.b).size = x.b.length := bs_size _
  rw [HI.out]
  obtain ⟨m, hm⟩ : ∃ m, (Lz.press x.d).length = m := ⟨_, rfl⟩
  rw [hm] at HN hnl hps hns hpl ⊢
  generalize bs (Cd.numL m) = NN at HN hns ⊢
  generalize bs (Lz.press x.d) = PP at HPR hps ⊢
  have mI : (m : Int) ≤ 10000000 := by omega
  have mW : IntKind.u64.wrap (m : Int) = (m : Int) := by rw [IntKind.wrap_u64]; omega
  have ns : NN.size ≤ 10 := by omega
  have nsI : (NN.size : Int) ≤ 10 := by omega
  obtain ⟨W, hW⟩ : ∃ W, w.alloc (.cells #[.string (bs x.b), .string (bs x.d), .int .i64 x.pl] 38) = W := ⟨_, rfl⟩
  have HBW : Hid (Below w.heap.size w W) := hideIt (by rw [← hW]; exact (Below.refl _ _).alloc (Nat.le_refl _) _)
  have HKX : Hid (∀ w1, Below W.heap.size W w1 → Box w1 w.heap.size (bs x.b) (bs x.d) x.pl) := hideIt (fun w1 h1 => by
    have : W.heap[w.heap.size]? = some (.cells #[.string (bs x.b), .string (bs x.d), .int .i64 x.pl] 38 (0, 0)) := by rw [← hW]; exact alloc_at rfl
    exact Box.of (t := 38) (by rw [h1.block _ (by rw [← hW]; simp)]; exact this))
  by_cases h0 : x.b = []
  · have he : bs (headL x.b) = ⟨#[119]⟩ := by rw [h0]; rfl
    have e1 : bs x.b = ⟨#[]⟩ := by rw [h0]; rfl
    rw [he]
    rw [e1] at hW HKX ⊢
    generalize bs x.d = XD at HPR hW HKX ⊢
    obtain ⟨j0, j1, j2, _, _, _⟩ := HKX.out W (Below.refl _ _)
    clear he e1 hnl hns hbs hm HI
    go_enter Tryd.func20, Tryd.ntmps20
    go_wp2_with (first
      | (go_at_call 39; refine (HPR.out _).mono ?_; rintro e w1 ⟨rfl, hb1⟩; obtain ⟨k0, k1, k2, _, _, _⟩ := HKX.out w1 hb1)
      | (go_at_call 19; refine (HN.out _).mono ?_; rintro e w2 ⟨rfl, hb2⟩))
    go_ret
    exact ⟨rfl, below2 HBW.out (below2 hb1 hb2)⟩
  · have he : bs (headL x.b) = ⟨#[109]⟩ ++ bs x.b := by rw [headL, if_neg h0, show (109 :: x.b : List UInt8) = [109] ++ x.b from rfl, ← bs_append]; rfl
    have hbp : 0 < (bs x.b).size := by rw [bs_size]; exact List.length_pos_iff.2 h0
    obtain ⟨n1, n2⟩ := nonempty_of hbp
    rw [he]
    generalize bs x.d = XD at HPR hW HKX ⊢
    generalize bs x.b = XB at hW HKX n1 n2 hbs ⊢
    have bI : (XB.size : Int) ≤ 10000 := by omega
    have bN : XB.size ≤ 10000 := by omega
    obtain ⟨j0, j1, j2, _, _, _⟩ := HKX.out W (Below.refl _ _)
    clear he hnl hns hbs hm HI hbp
    go_enter Tryd.func20, Tryd.ntmps20
    go_wp2_with (first
      | (go_at_call 39; refine (HPR.out _).mono ?_; rintro e w1 ⟨rfl, hb1⟩; obtain ⟨k0, k1, k2, _, _, _⟩ := HKX.out w1 hb1)
      | (go_at_call 19; refine (HN.out _).mono ?_; rintro e w2 ⟨rfl, hb2⟩))
    go_ret
    exact ⟨rfl, below2 HBW.out (below2 hb1 hb2)⟩
set_option maxHeartbeats 1600000 in
set_option maxRecDepth 100000 in
theorem refbuild_any (v : Value) (l : List It) (w : World) (h : IRow w v l) (hn : l.length ≤ 2048) (hd : ∀ x ∈ l, x.d.length ≤ 1048576) (hbody : (bodyL l).length ≤ 4194272) :
    Calls Tryd.prog 8 #[v] w fun e w' => e = .returned (bldV l) ∧ Below w.heap.size w w' := by
  obtain ⟨av, cv, rfl, hle, hcm, hrow⟩ := h
  have HR := hideIt hrow
  have HBV : Hid (bldV l = if allOk l = true then .tuple #[.string (bs (packL l)), .int .i64 0] else .tuple #[.string ⟨#[]⟩, .int .i64 1]) := hideIt rfl
  have HU := hideIt (upto_next l)
  have HUL := hideIt (fun i => Nat.le_trans (upto_le l i) hbody)
  have HIL := hideIt (fun (i : Nat) (x : It) (hx : l[i]? = some x) => Nat.le_trans (item_le hx) hbody)
  have HD := hideIt (fun (i : Nat) (x : It) (hx : l[i]? = some x) => hd x (List.mem_of_getElem? hx))
  have HAT := hideIt (fun (i : Nat) (x : It) => allOk_at (l := l) (i := i) (x := x))
  have HAA := hideIt (allOk_all (l := l))
  have HPK : Hid (packL l = bodyL l ++ shaL (bodyL l)) := hideIt rfl
  have HSO := hideIt (fun w => refsumOf_any (bodyL l) w (by omega))
  have HU0 : Hid (bs (upto l 0) = ⟨#[112, 111, 108, 108, 97, 114, 100, 32, 112, 97, 99, 107, 10]⟩ ++ bs (Cd.numL l.length)) := hideIt (by rw [upto]; simp only [List.take_zero, itemsL, List.append_nil]; rw [← bs_append]; rfl)
  have HUN := hideIt (upto_all l l.length rfl)
  have HTI := hideIt title_any
  obtain ⟨n, hnn⟩ : ∃ n, l.length = n := ⟨_, rfl⟩
  rw [hnn] at hn hle HU0 HUN HR ⊢
  have HNN := hideIt hnn
  have HN := hideIt (fun w => refnum_any n w (by omega))
  have hnl := num_le n (by omega)
  have nsz : (bs (Cd.numL n)).size ≤ 10 := by rw [bs_size]; exact hnl
  generalize bs (Cd.numL n) = NN at HN HU0 nsz
  have nsI : (NN.size : Int) ≤ 10 := by omega
  have nI : (n : Int) ≤ 2048 := by omega
  have nW : IntKind.u64.wrap (n : Int) = (n : Int) := by rw [IntKind.wrap_u64]; omega
  have n1 : ¬ (2048 : Int) < (n : Int) := by omega
  have n2 : decide ((2048 : Int) < (n : Int)) = false := decide_eq_false n1
  clear hnn hd hrow hbody hle hcm hnl
  go_enter Tryd.func8, Tryd.ntmps8
  go_wp2_with (first | (go_at_call 18; refine (HTI.out _).mono ?_; rintro e wx ⟨rfl, hwx⟩; obtain rfl := hwx.symm) | (go_at_call 19; refine (HN.out _).mono ?_; rintro e w1 ⟨rfl, hb1⟩))
  go_loopw [4, 5] (fun tv ti wr => ∃ i : Nat, i ≤ n ∧ ti = .int .i64 (i : Int) ∧ tv = .string (bs (upto l i)) ∧ Below w.heap.size w wr ∧ Hid (∀ (j : Nat) (x : It), j < i → l[j]? = some x → baseOk x)) (fun _ ti _ => n - (intOf ti).toNat)
  case atStart => exact ⟨0, by omega, rfl, by rw [HU0.out], hb1, hideIt (fun j _ h => by omega)⟩
  case round =>
    obtain ⟨i, hi, rfl, rfl, hb, HOKS⟩ := hrel
    have HB := hideIt hb
    have hws : w.heap.size ≤ wr.heap.size := hb.size
    clear hb
    have hul := HUL.out i
    have hus : (bs (upto l i)).size = (upto l i).length := bs_size _
    obtain ⟨TT, hTT⟩ : ∃ TT, bs (upto l i) = TT := ⟨_, rfl⟩
    rw [hTT] at hus ⊢
    have t1 : (TT.size : Int) ≤ 4194272 := by omega
    have t2 : TT.size ≤ 4194272 := by omega
    have HTT := hideIt hTT
    clear hTT hul hus
    by_cases hlt : i < n
    · have hid : decide ((i : Int) < (n : Int)) = true := decide_eq_true (by omega)
      have i1 : (i : Int) < (n : Int) := by omega
      obtain ⟨b, o, rfl, hcells⟩ := HR.out (by omega)
      obtain ⟨x, hxi⟩ : ∃ x, l[i]? = some x := ⟨l[i]'(by rw [HNN.out]; exact hlt), by simp⟩
      obtain ⟨c0, c1, c2⟩ := (hcells.below HB.out).2 i x hxi
      have hdl := HD.out i x hxi
      have hil := HIL.out i x hxi
      have hul2 := HUL.out (i + 1)
      have HUX := hideIt (HU.out i x hxi)
      have HIT : Hid (itemL x = headL x.b ++ Cd.numL (Lz.press x.d).length ++ Lz.press x.d) := hideIt rfl
      have hpl : (Lz.press x.d).length ≤ 10000000 := by
        rw [HIT.out, List.length_append] at hil
        omega
      have HPT := hideIt (fun w h => refPut_any x w hdl h hpl)
      have hds : (bs x.d).size = x.d.length := bs_size _
      have hbl : (bs x.b).size = x.b.length := bs_size x.b
      have his : (bs (itemL x)).size = (itemL x).length := bs_size _
      have HX := hideIt hxi
      clear hcells
      obtain ⟨XB, hXB⟩ : ∃ XB, bs x.b = XB := ⟨_, rfl⟩
      generalize bs x.d = XD at c1 HPT hds
      rw [hXB] at c0 hbl HPT
      generalize x.pl = xpl at c2 HPT
      have d1 : ¬ (1048576 : Int) < (XD.size : Int) := by omega
      have d2 : (XD.size : Int) ≤ 1048576 := by omega
      by_cases hok : baseOk x
      · have HPT2 := hideIt (fun w => HPT.out w (by rcases hok with h | h <;> omega))
        have HOK2 : Hid (∀ (j : Nat) (y : It), j < i + 1 → l[j]? = some y → baseOk y) := hideIt (fun j y hj hy => by
          by_cases e : j = i
          · subst e
            rw [HX.out] at hy
            cases hy
            exact hok
          · exact HOKS.out j y (by omega) hy)
        have HNX : Hid (bs (upto l (i + 1)) = TT ++ bs (itemL x)) := hideIt (by rw [HUX.out, ← HTT.out, bs_append])
        have hsum : TT.size + (itemL x).length ≤ 4194272 := by
          rw [HUX.out, List.length_append] at hul2
          have : TT.size = (upto l i).length := by rw [← HTT.out, bs_size]
          omega
        generalize bs (itemL x) = IT at HPT2 HNX his
        have s1 : (IT.size : Int) ≤ 4194272 := by omega
        have s2 : IT.size ≤ 4194272 := by omega
        have s3 : ¬ (4194272 : Int) < (TT.size : Int) + (IT.size : Int) := by omega
        have s4 : (TT ++ IT).size = TT.size + IT.size := ByteArray.size_append
        have s5 : ((TT ++ IT).size : Int) ≤ 4194272 := by omega
        have s6 : ¬ (4194272 : Int) < ((TT ++ IT).size : Int) := by omega
        clear HPT hds hil hul2 hpl hdl s4
        rcases hok with h0 | h32
        · have e0 : x.b = [] := List.length_eq_zero_iff.1 h0
          have e1 : (⟨#[]⟩ : ByteArray) = XB := by rw [← hXB, e0]; rfl
          subst e1
          clear hXB h0 e0 hbl his hsum
          go_wp2_with (first | (go_at_call 20; refine (HPT2.out _).mono ?_; rintro e w2 ⟨rfl, hb2⟩))
          go_roundw
          case rel => exact ⟨i + 1, by omega, by go_num, by rw [HNX.out], below2 HB.out hb2, HOK2⟩
          case measure => simp [intOf]; omega
        · have hp : 0 < XB.size := by omega
          obtain ⟨n3, n4⟩ := nonempty_of hp
          have s32 : (XB.size : Int) = 32 := by omega
          clear hXB hbl his hsum hp
          go_wp2_with (first | (go_at_call 20; refine (HPT2.out _).mono ?_; rintro e w2 ⟨rfl, hb2⟩))
          go_roundw
          case rel => exact ⟨i + 1, by omega, by go_num, by rw [HNX.out], below2 HB.out hb2, HOK2⟩
          case measure => simp [intOf]; omega
      · have HV2 : Hid (bldV l = .tuple #[.string ⟨#[]⟩, .int .i64 1]) := hideIt (by rw [HBV.out, HAT.out i x hxi hok]; rfl)
        have hnb : x.b.length ≠ 0 ∧ x.b.length ≠ 32 := by
          unfold baseOk at hok
          omega
        have hp : 0 < XB.size := by omega
        obtain ⟨n3, n4⟩ := nonempty_of hp
        obtain ⟨q, hq⟩ : ∃ q, XB.size = q := ⟨_, rfl⟩
        have s32 : ¬ (q : Int) = 32 := by omega
        have s33 : ((q : Int) == 32) = false := beq_eq_false_iff_ne.2 s32
        clear hXB hbl hok hnb hp HPT his hds hil hul2 hpl hdl
        go_wp2
        go_ret2
        exact ⟨by rw [HV2.out]; rfl, HB.out⟩
    · have hid : decide ((i : Int) < (n : Int)) = false := decide_eq_false (by omega)
      obtain rfl : i = n := by omega
      have HA : Hid (allOk l = true) := hideIt (HAA.out (fun j x hx => HOKS.out j x (by have := (List.getElem?_eq_some_iff.1 hx).1; rw [HNN.out] at this; exact this) hx))
      have HLB : Hid (bs (bodyL l) = TT) := hideIt (by rw [← HTT.out, HUN.out])
      have HSO2 := hideIt (HSO.out wr)
      have HV2 : Hid (bldV l = .tuple #[.string (bs (bodyL l) ++ bs (shaL (bodyL l))), .int .i64 0]) := hideIt (by rw [HBV.out, HA.out, if_pos rfl, HPK.out, bs_append])
      rw [HLB.out] at HSO2 HV2
      have hz2' : (bs (shaL (bodyL l))).size = 32 := by rw [bs_size, shaL_len]
      generalize bs (shaL (bodyL l)) = SS at HSO2 HV2 hz2'
      have t3 : (SS.size : Int) ≤ 32 := by omega
      clear hz2'
      go_wp2_with (first | (go_at_call 21; refine HSO2.out.mono ?_; rintro e w2 ⟨rfl, hb2⟩))
      go_ret2
      exact ⟨by rw [HV2.out]; rfl, below2 HB.out hb2⟩
end Go.Proofs.YtjiigdjopcegeaaDoor.Pk
