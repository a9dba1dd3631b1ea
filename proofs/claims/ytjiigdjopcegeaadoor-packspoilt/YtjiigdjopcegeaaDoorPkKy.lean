/- Packs: the pack of items: walked. -/
import Derived.Test.YtjiigdjopcegeaaDoorPkKxa
namespace Go.Proofs.YtjiigdjopcegeaaDoor.Pk
open Cb Ld Go.RowKit Go.Shelf
/-- May all bases be? -/
def allOk (l : List It) : Bool := l.all (fun x => decide (baseOk x))
def bldV (l : List It) : Value := if allOk l = true then .tuple #[.string (bs (packL l)), .int .i64 0] else .tuple #[.string ⟨#[]⟩, .int .i64 1]
abbrev TC : Array Value := #[.int .u8 112, .int .u8 111, .int .u8 108, .int .u8 108, .int .u8 97, .int .u8 114, .int .u8 100, .int .u8 32, .int .u8 112, .int .u8 97, .int .u8 99, .int .u8 107, .int .u8 10]
theorem TC_row : TC = rowA titleL := rfl
/-- The body behind some items. -/
def upto (l : List It) (i : Nat) : List UInt8 := titleL ++ Cd.numL l.length ++ itemsL (l.take i)
theorem upto_le (l : List It) (i : Nat) : (upto l i).length ≤ (bodyL l).length := by
  have := itemsL_le l i
  rw [upto, bodyL, List.length_append, List.length_append (bs := itemsL l)]
  omega
theorem upto_next (l : List It) (i : Nat) (x : It) (h : l[i]? = some x) : upto l (i + 1) = upto l i ++ itemL x := by
  rw [upto, upto, itemsL_take l i x h, List.append_assoc, List.append_assoc, List.append_assoc]
theorem upto_all (l : List It) (i : Nat) (h : i = l.length) : upto l i = bodyL l := by
  rw [upto, bodyL, h, List.take_length]
theorem allOk_at {l : List It} {i : Nat} {x : It} (h : l[i]? = some x) (hx : ¬ baseOk x) : allOk l = false := by
  rw [allOk, List.all_eq_false]
  exact ⟨x, List.mem_of_getElem? h, by simpa using hx⟩
theorem allOk_all {l : List It} (h : ∀ (i : Nat) (x : It), l[i]? = some x → baseOk x) : allOk l = true := by
  rw [allOk, List.all_eq_true]
  intro x hx
  obtain ⟨i, hi⟩ := List.getElem?_of_mem hx
  simpa using h i x hi
theorem item_le {l : List It} {i : Nat} {x : It} (h : l[i]? = some x) : (itemL x).length ≤ (bodyL l).length := by
  have h1 := upto_le l (i + 1)
  rw [upto_next l i x h, List.length_append] at h1
  omega
theorem start_own {w : World} {N : Nat} {v : Value} {nn : List UInt8} (hz : (bs nn).size = nn.length) (h : w.ownsRow N 5 1 v (13 + (bs nn).size) (u8s titleL ++ Lib.strCells (bs nn))) : w.ownsRow N 5 1 v (titleL ++ nn).length (u8s (titleL ++ nn)) := by
  rw [str_u8s, bs_list, ← u8s_append, hz] at h
  rw [List.length_append]
  exact h
set_option maxHeartbeats 1600000 in
set_option maxRecDepth 100000 in
theorem build_any (v : Value) (l : List It) (w : World) (h : IRow w v l) (hK : Sa.KAt w) (hn : l.length ≤ 2048) (hd : ∀ x ∈ l, x.d.length ≤ 1048576) (hbody : (bodyL l).length ≤ 4194272) :
    Calls Tryd.prog 7 #[v] w fun e w' => e = .returned (bldV l) ∧ Below w.heap.size w w' := by
  obtain ⟨i0, hi0, hz0, hz1, hz2⟩ := info_parts infoB
  obtain ⟨av, cv, rfl, hle, hcm, hrow⟩ := h
  have HR := hideIt hrow
  have HBV : Hid (bldV l = if allOk l = true then .tuple #[.string (bs (packL l)), .int .i64 0] else .tuple #[.string ⟨#[]⟩, .int .i64 1]) := hideIt rfl
  have HU := hideIt (upto_next l)
  have HUL := hideIt (fun i => Nat.le_trans (upto_le l i) hbody)
  have HIL := hideIt (fun (i : Nat) (x : It) (hx : l[i]? = some x) => Nat.le_trans (item_le hx) hbody)
  have HD := hideIt (fun (i : Nat) (x : It) (hx : l[i]? = some x) => hd x (List.mem_of_getElem? hx))
  have HAT := hideIt (fun (i : Nat) (x : It) => allOk_at (l := l) (i := i) (x := x))
  have HAA := hideIt (allOk_all (l := l))
  have HKW := hideIt (fun w' (hb : Below w.heap.size w w') => Sa.K_below hb (Sa.K_pos hK) hK)
  have HPK : Hid (packL l = bodyL l ++ shaL (bodyL l)) := hideIt rfl
  have HSO := hideIt (fun w h => sumOf_any (bodyL l) w h (by omega))
  have HU0 : Hid (upto l 0 = titleL ++ Cd.numL l.length) := hideIt (by rw [upto]; simp [itemsL])
  have HUN := hideIt (upto_all l l.length rfl)
  obtain ⟨n, hnn⟩ : ∃ n, l.length = n := ⟨_, rfl⟩
  rw [hnn] at hn hle HU0 HUN HR ⊢
  have HNN := hideIt hnn
  have HN := hideIt (fun w => num_any n w (by omega))
  have hnl := num_le n (by omega)
  generalize hnum : Cd.numL n = nn at HN HU0 hnl
  have nsz : (bs nn).size = nn.length := bs_size nn
  have nI : (n : Int) ≤ 2048 := by omega
  have nW : IntKind.u64.wrap (n : Int) = (n : Int) := by rw [IntKind.wrap_u64]; omega
  have n1 : ¬ (2048 : Int) < (n : Int) := by omega
  have n2 : decide ((2048 : Int) < (n : Int)) = false := decide_eq_false n1
  have htl : titleL.length = 13 := rfl
  have hcc := Lib.run_convert_bytes_const (P := Tryd.prog) w 42 5 #[.int .u8 112, .int .u8 111, .int .u8 108, .int .u8 108, .int .u8 97, .int .u8 114, .int .u8 100, .int .u8 32, .int .u8 112, .int .u8 97, .int .u8 99, .int .u8 107, .int .u8 10] 13 13 Tryd.underlying42 Tryd.underlying5
  simp only [List.size_toArray, List.length_cons, List.length_nil, Nat.zero_add, Nat.reduceAdd] at hcc
  obtain ⟨W0, hW0⟩ : ∃ W0, w.alloc (.cells #[.int .u8 112, .int .u8 111, .int .u8 108, .int .u8 108, .int .u8 97, .int .u8 114, .int .u8 100, .int .u8 32, .int .u8 112, .int .u8 97, .int .u8 99, .int .u8 107, .int .u8 10] 5 (13, 14)) = W0 := ⟨_, rfl⟩
  rw [hW0] at hcc
  have HTO : Hid (∀ w1, Below W0.heap.size W0 w1 → w1.heap[w.heap.size]? = some (.cells (rowA titleL) 5 (13, 14))) := hideIt (fun w1 h1 => by
    rw [h1.block _ (by rw [← hW0]; simp), ← hW0]
    exact alloc_at rfl)
  have HB0 : Hid (Below w.heap.size w W0) := hideIt (by rw [← hW0]; exact (Below.refl _ _).alloc (Nat.le_refl _) _)
  have hn0 : 0 < (bs nn).size := by rw [nsz, ← hnum, Cd.numL, List.length_reverse, Cd.numR]; simp
  clear hnn hnum hK hd hrow hbody hle hcm
  go_enter Tryd.func7, Tryd.ntmps7
  go_wp2_with (first
    | (go_at_call 14; refine (HN.out _).mono ?_; rintro e w1 ⟨rfl, hb1⟩; have O1 := hideIt (HTO.out w1 hb1); have B1 := hideIt (below2 HB0.out hb1))
    | (at_builtin; refine wpList_append_title rfl (.tmp 14) (.tmp 18) rfl w.heap.size w.heap.size B1.out.size O1.out rfl (bs nn) rfl hn0 (by omega) ?_; intro v2 w2 hown2 hg2; have O2 := hideIt (start_own nsz hown2); have B2 := hideIt (B1.out.grown hg2 B1.out.size (fun b hb => by cases hb)); clear hown2 hg2))
  go_loopw [4, 22] (fun tv ti wr => ∃ i : Nat, i ≤ n ∧ ti = .int .i64 (i : Int) ∧ wr.ownsRow w.heap.size 5 1 tv (upto l i).length (u8s (upto l i)) ∧ Below w.heap.size w wr ∧ Hid (∀ (j : Nat) (x : It), j < i → l[j]? = some x → baseOk x)) (fun _ ti _ => n - (intOf ti).toNat)
  case atStart => exact ⟨0, by omega, rfl, by rw [HU0.out]; exact O2.out, B2.out, hideIt (fun j _ h => by omega)⟩
  case round =>
    obtain ⟨i, hi, rfl, hrow, hb, HOKS⟩ := hrel
    have HO := hideIt hrow
    have HB := hideIt hb
    have hws : w.heap.size ≤ wr.heap.size := hb.size
    clear hrow hb
    have hul := HUL.out i
    obtain ⟨LL, hLL⟩ : ∃ LL, upto l i = LL := ⟨_, rfl⟩
    rw [hLL] at HO hul
    have HLL := hideIt hLL
    obtain ⟨xa, xc, hx⟩ := slice_of HO.out
    subst hx
    clear hLL
    have ul1 : (LL.length : Int) ≤ 4194272 := by omega
    have ul2 : ¬ (4194272 : Int) < (LL.length : Int) := by omega
    by_cases hlt : i < n
    · have hid : decide ((i : Int) < (n : Int)) = true := decide_eq_true (by omega)
      have i1 : (i : Int) < (n : Int) := by omega
      obtain ⟨b, o, rfl, hcells⟩ := HR.out (by omega)
      obtain ⟨x, hxi⟩ : ∃ x, l[i]? = some x := ⟨l[i]'(by rw [HNN.out]; exact hlt), by simp⟩
      obtain ⟨c0, c1, c2⟩ := (hcells.below HB.out).2 i x hxi
      have HPR := hideIt (fun w => press_any (bs x.d) w (by rw [bs_size]; exact HD.out i x hxi))
      rw [bs_list] at HPR
      have hil := HIL.out i x hxi
      have HAI := hideIt (fun B v L w h1 h2 h3 h4 h5 => appendItem_any B v L x.b (Lz.press x.d) w h1 h2 h3 h4 h5)
      have HIT : Hid (itemL x = headL x.b ++ Cd.numL (Lz.press x.d).length ++ Lz.press x.d) := hideIt rfl
      have hpl : (Lz.press x.d).length ≤ 10000000 := by
        rw [HIT.out, List.length_append] at hil
        omega
      have hbl : (bs x.b).size = x.b.length := bs_size x.b
      have HX := hideIt hxi
      clear hcells hil
      obtain ⟨XB, hXB⟩ : ∃ XB, bs x.b = XB := ⟨_, rfl⟩
      obtain ⟨XD, hXD⟩ : ∃ XD, bs x.d = XD := ⟨_, rfl⟩
      obtain ⟨XP, hXP⟩ : ∃ XP, bs (Lz.press x.d) = XP := ⟨_, rfl⟩
      rw [hXB] at c0 hbl HAI
      rw [hXD] at c1 HPR
      rw [hXP] at HPR HAI
      obtain ⟨xpl, hxpl⟩ : ∃ z, x.pl = z := ⟨_, rfl⟩
      rw [hxpl] at c2
      obtain ⟨W, hW⟩ : ∃ W, wr.alloc (.cells #[.string XB, .string XD, .int .i64 xpl] 37) = W := ⟨_, rfl⟩
      have HBW : Hid (Below wr.heap.size wr W) := hideIt (by rw [← hW]; exact (Below.refl _ _).alloc (Nat.le_refl _) _)
      have HKX : Hid (∀ w1, Below W.heap.size W w1 → Box w1 wr.heap.size XB XD xpl) := hideIt (fun w1 h1 => by
        have : W.heap[wr.heap.size]? = some (.cells #[.string XB, .string XD, .int .i64 xpl] 37 (0, 0)) := by rw [← hW]; exact alloc_at rfl
        exact Box.of (t := 37) (by rw [h1.block _ (by rw [← hW]; simp)]; exact this))
      obtain ⟨j0, j1, j2, _, _, _⟩ := HKX.out W (Below.refl _ _)
      by_cases hok : baseOk x
      · have HB40 : Hid (x.b.length ≤ 10000000) := hideIt (by rcases hok with h | h <;> omega)
        have HOK2 : Hid (∀ (j : Nat) (y : It), j < i + 1 → l[j]? = some y → baseOk y) := hideIt (fun j y hj hy => by
          by_cases e : j = i
          · subst e
            rw [HX.out] at hy
            cases hy
            exact hok
          · exact HOKS.out j y (by omega) hy)
        have HFIN : Hid (∀ (w1 w2 : World) (v' : Value), Below wr.heap.size wr w1 → Grew w.heap.size w1 w2 v' (LL ++ (headL x.b ++ Cd.numL (Lz.press x.d).length ++ Lz.press x.d)) → w2.ownsRow w.heap.size 5 1 v' (upto l (i + 1)).length (u8s (upto l (i + 1))) ∧ Below w.heap.size w w2) := hideIt (fun w1 w2 v' h1 h2 => by
          have e : upto l (i + 1) = LL ++ (headL x.b ++ Cd.numL (Lz.press x.d).length ++ Lz.press x.d) := by rw [HU.out i x HX.out, HLL.out, HIT.out]
          rw [e]
          exact ⟨h2.own, (below2 HB.out h1).trans h2.below⟩)
        rcases hok with h0 | h32
        · have e0 : x.b = [] := List.length_eq_zero_iff.1 h0
          have e1 : (⟨#[]⟩ : ByteArray) = XB := by rw [← hXB, e0]; rfl
          subst e1
          clear hXB hXD hXP hxpl h0 e0 hbl
          go_wp2_with (first
            | (go_at_call 15; refine (HPR.out _).mono ?_; rintro e w1 ⟨rfl, hb1⟩; obtain ⟨k0, k1, k2, _, _, _⟩ := HKX.out w1 hb1; have BB1 := hideIt (below2 HBW.out hb1); have O3 := hideIt (own_keep HO.out BB1.out.block))
            | (go_at_call 16; refine (HAI.out w.heap.size _ LL _ O3.out (Nat.le_trans hws BB1.out.size) (by omega) HB40.out hpl).mono ?_; rintro e w3 ⟨v3, rfl, hg3⟩))
          go_roundw
          case rel =>
            obtain ⟨r1, r2⟩ := HFIN.out _ _ _ BB1.out hg3
            exact ⟨i + 1, by omega, by go_num, r1, r2, HOK2⟩
          case measure => simp [intOf]; omega
        · have hp : 0 < XB.size := by omega
          obtain ⟨n3, n4⟩ := nonempty_of hp
          have s32 : (XB.size : Int) = 32 := by omega
          clear hXB hXD hXP hxpl hbl
          go_wp2_with (first
            | (go_at_call 15; refine (HPR.out _).mono ?_; rintro e w1 ⟨rfl, hb1⟩; obtain ⟨k0, k1, k2, _, _, _⟩ := HKX.out w1 hb1; have BB1 := hideIt (below2 HBW.out hb1); have O3 := hideIt (own_keep HO.out BB1.out.block))
            | (go_at_call 16; refine (HAI.out w.heap.size _ LL _ O3.out (Nat.le_trans hws BB1.out.size) (by omega) HB40.out hpl).mono ?_; rintro e w3 ⟨v3, rfl, hg3⟩))
          go_roundw
          case rel =>
            obtain ⟨r1, r2⟩ := HFIN.out _ _ _ BB1.out hg3
            exact ⟨i + 1, by omega, by go_num, r1, r2, HOK2⟩
          case measure => simp [intOf]; omega
      · have HV2 : Hid (bldV l = .tuple #[.string ⟨#[]⟩, .int .i64 1]) := hideIt (by rw [HBV.out, HAT.out i x hxi hok]; rfl)
        have hnb : x.b.length ≠ 0 ∧ x.b.length ≠ 32 := by
          unfold baseOk at hok
          omega
        have hp : 0 < XB.size := by omega
        obtain ⟨n3, n4⟩ := nonempty_of hp
        obtain ⟨q, hq⟩ : ∃ q, XB.size = q := ⟨_, rfl⟩
        have s32 : ¬ (q : Int) = 32 := by omega
        have s33 : ((q : Int) == 32) = false := beq_eq_false_iff_ne.2 s32
        clear hXB hXD hXP hxpl hbl hok hnb hp
        go_wp2_with (first
          | (go_at_call 15; refine (HPR.out _).mono ?_; rintro e w1 ⟨rfl, hb1⟩; obtain ⟨k0, k1, k2, _, _, _⟩ := HKX.out w1 hb1; have BB1 := hideIt (below2 HBW.out hb1)))
        go_ret2
        exact ⟨by rw [HV2.out]; rfl, below2 HB.out BB1.out⟩
    · have hid : decide ((i : Int) < (n : Int)) = false := decide_eq_false (by omega)
      obtain rfl : i = n := by omega
      have HA : Hid (allOk l = true) := hideIt (HAA.out (fun j x hx => HOKS.out j x (by have := (List.getElem?_eq_some_iff.1 hx).1; rw [HNN.out] at this; exact this) hx))
      have HLB : Hid (LL = bodyL l) := hideIt (by rw [← HLL.out, HUN.out])
      have hcv : (convert 42 9 (.slice xa LL.length xc)).run Tryd.prog wr = .ok (.string (bs LL)) wr := run_own HO.out
      have HSO2 := hideIt (HSO.out wr (HKW.out wr HB.out))
      have HV2 : Hid (bldV l = .tuple #[.string (bs (bodyL l) ++ bs (shaL (bodyL l))), .int .i64 0]) := hideIt (by rw [HBV.out, HA.out, if_pos rfl, HPK.out, bs_append])
      rw [← HLB.out] at HSO2 HV2
      have hz1' : (bs LL).size = LL.length := bs_size LL
      have hz2' : (bs (shaL LL)).size = 32 := by rw [bs_size, shaL_len]
      generalize bs (shaL LL) = SS at HSO2 HV2 hz2'
      generalize bs LL = TT at hcv HSO2 HV2 hz1'
      have t1 : (TT.size : Int) ≤ 4194272 := by omega
      have t2 : (SS.size : Int) ≤ 32 := by omega
      clear hz1' hz2'
      go_wp2_with (first | (go_at_call 17; refine HSO2.out.mono ?_; rintro e w1 ⟨rfl, hb1⟩))
      go_ret2
      exact ⟨by rw [HV2.out]; rfl, below2 HB.out hb1⟩
end Go.Proofs.YtjiigdjopcegeaaDoor.Pk
