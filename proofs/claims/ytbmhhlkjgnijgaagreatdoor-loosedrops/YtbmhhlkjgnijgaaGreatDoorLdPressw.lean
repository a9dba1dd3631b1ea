/- A text pressed, walked. -/
import Derived.Test.YtbmhhlkjgnijgaaGreatDoorLdApp
namespace Go.Proofs.YtbmhhlkjgnijgaaGreatDoor.Ld
open Cb
open Go.RowKit
structure PrMem (N gB n : Nat) (bf : Nat → Nat) (L : List UInt8) (v : Value) (w0 w : World) : Prop where
  below : Below N w0 w
  size : N ≤ w.heap.size
  own : w.ownsRow N 5 1 v L.length (u8s L)
  bk : w.heap[gB]? = some (.cells (rowI n bf) 21 (0, 0))
theorem PrMem.next {N gB n : Nat} {bf : Nat → Nat} {L L' : List UInt8} {v v' : Value} {w0 w w' : World} (h : PrMem N gB n bf L v w0 w) (k : Grew N w w' v' L') : PrMem N gB n bf L' v' w0 w' :=
  ⟨h.below.trans k.below, Nat.le_trans h.size k.below.size, k.own, k.keep _ _ _ _ (by decide) h.bk⟩
theorem PrMem.under {N gB n : Nat} {bf : Nat → Nat} {L : List UInt8} {v : Value} {w0 w w' : World} (h : PrMem N gB n bf L v w0 w) (k : Below w.heap.size w w') : PrMem N gB n bf L v w0 w' :=
  ⟨h.below.trans (k.mono h.size), Nat.le_trans h.size k.size, own_keep h.own k.block, by rw [k.block _ (Array.getElem?_eq_some_iff.1 h.bk).1]; exact h.bk⟩
/-- What is told has not more than twice the bytes, and some. -/
theorem numL_small (n : Nat) (h : n < 128 ^ 4) : (Cd.numL n).length ≤ 4 := by
  rw [Cd.numL, List.length_reverse, Cd.numR, List.length_cons]
  have := Cd.more_len 3 n h
  omega
theorem same_take : ∀ (k : Nat) (a b : List UInt8), a.take k = b.take k → k ≤ a.length → Lz.same a b = k + Lz.same (a.drop k) (b.drop k)
  | 0, a, b, _, _ => by simp
  | k + 1, [], b, _, h => by simp at h
  | k + 1, x :: a, [], e, _ => by simp at e
  | k + 1, x :: a, y :: b, e, h => by
    simp only [List.take_succ_cons, List.cons.injEq] at e
    rw [Lz.same, if_pos e.1, same_take k a b e.2 (by simpa using h)]
    simp only [List.drop_succ_cons]
    omega
theorem run_same {L : List UInt8} {i : Nat} (h : Lz.back L i ≠ 0) : Lz.same (L.drop (i - Lz.back L i)) (L.drop i) = Lz.run L i := by
  have h1 := Lz.back_some h
  rw [same_take 4 _ _ h1.2.2.2.2 (by rw [List.length_drop]; omega), List.drop_drop, List.drop_drop, Lz.run, show i - Lz.back L i + 4 = i + 4 - Lz.back L i by omega]
set_option maxHeartbeats 400000 in
theorem press_much (s : ByteArray) (w : World) (hs : 1048576 < s.size) (hs2 : s.size ≤ 100000000) :
    Calls Tryz.prog 30 #[.string s] w fun e w' => e = .returned (.tuple #[.string ⟨#[]⟩, .int .i64 3]) ∧ w' = w := by
  have si : (1048576 : Int) < (s.size : Int) := by omega
  go_enter Tryz.func30, Tryz.ntmps30
  go_wp2
  go_ret2
  exact ⟨rfl, rfl⟩
set_option maxHeartbeats 1600000 in
set_option maxRecDepth 100000 in
theorem press_any (s : ByteArray) (w : World) (hs : s.size ≤ 1048576) :
    Calls Tryz.prog 30 #[.string s] w fun e w' => e = .returned (.tuple #[.string (bs (Lz.press s.data.toList)), .int .i64 0]) ∧ Below w.heap.size w w' := by
  obtain ⟨n, hn⟩ : ∃ n, s.size = n := ⟨_, rfl⟩
  have si : (s.size : Int) = (n : Int) := by omega
  have ni : (n : Int) ≤ 1048576 := by omega
  have ni2 : ¬ (1048576 : Int) < (n : Int) := by omega
  obtain ⟨N, hN⟩ : ∃ N, w.heap.size = N := ⟨_, rfl⟩
  have HB := hideIt (fun w => backs_any s w hs)
  have HA := hideIt (fun (B : Nat) (m : Nat) (v : Value) (L : List UInt8) (w : World) => appnum_any B m v L w)
  have HAL := hideIt (fun (B : Nat) (t : ByteArray) (v : Value) (L : List UInt8) (w : World) => appalone_any B t v L w)
  have H0 := hideIt (appnum_any N n (.slice none 0 0) [] w ⟨by simp [u8s], Or.inl ⟨rfl, rfl⟩⟩ (by omega) (by omega) (by simp))
  obtain ⟨L, hL⟩ : ∃ L, s.data.toList = L := ⟨_, rfl⟩
  have hlen : L.length = n := by rw [← hL, str_len, hn]
  rw [hL, hn] at HB
  rw [hL, hN]
  have HLL := hideIt (And.intro hL hlen)
  have HS := hideIt hs
  clear hs hn hL hlen
  go_enter Tryz.func30, Tryz.ntmps30
  go_wp2_with (first | (go_at_call 64; refine H0.out.mono ?_; rintro e w1 ⟨v1, rfl, hg1⟩) | (go_at_call 65; refine (HB.out _).mono ?_; rintro e w2 ⟨rfl, hb2, hr2⟩))
  have HP : Hid (PrMem N w1.heap.size n (Lz.back L) (Cd.numL n) v1 w w2) := by
    refine hideIt ⟨hg1.below.trans (hb2.mono (by have := hg1.below.size; omega)), by have := hg1.below.size; have := hb2.size; omega, own_keep hg1.own hb2.block, hr2⟩
  clear hg1 hb2 hr2 H0 HB
  obtain ⟨gB, hgB⟩ : ∃ g, w1.heap.size = g := ⟨_, rfl⟩
  rw [hgB] at HP ⊢
  clear hgB
  go_loopw [4, 6, 7] (fun v a t wr => ∃ (i told : Nat) (out : List UInt8), told ≤ i ∧ i ≤ n ∧ t = .int .i64 i ∧ a = .int .i64 told ∧ Lz.press L = out ++ Lz.tell L told i ∧ out.length ≤ 8 + 4 * told ∧ PrMem N gB n (Lz.back L) out v w wr) (fun _ _ t _ => n - (intOf t).toNat)
  case atStart =>
    refine ⟨0, 0, Cd.numL n, by omega, by omega, rfl, rfl, by rw [Lz.press, HLL.out.2], ?_, HP.out⟩
    have := numL_small n (by omega)
    omega
  case round =>
    obtain ⟨i, told, out, h1, h2, rfl, rfl, ht, ho, hr⟩ := hrel
    clear HP
    have HX : Hid ((Lz.back L i ≠ 0 → i + Lz.run L i ≤ n) ∧ 4 ≤ Lz.run L i) := hideIt ⟨fun h => by rw [← HLL.out.2]; exact Lz.run_le h, by unfold Lz.run; omega⟩
    by_cases hlt : i < n
    · have hid : decide ((i : Int) < (n : Int)) = true := by simp; omega
      have i1 : (i : Int) < (n : Int) := by omega
      have c1 := cellI hr.bk hlt
      by_cases hb : Lz.back L i = 0
      · rw [hb] at c1
        have HT := hideIt ht
        rw [Lz.tell_next (by rw [HLL.out.2]; exact hlt) hb] at HT
        have HR := hideIt hr
        have HO := hideIt ho
        clear hr ht ho hb
        go_wp2
        go_roundw
        case rel => exact ⟨i + 1, told, out, by omega, by omega, by go_num, rfl, HT.out, HO.out, HR.out⟩
        case measure => simp [intOf]; omega
      · have hk := Lz.back_some hb
        have hx := HX.out.1 hb
        have hx4 := HX.out.2
        have HT := hideIt ht
        rw [Lz.tell_rep (by rw [HLL.out.2]; exact hlt) hb] at HT
        have HSM := hideIt (fun w => same_any s (i - Lz.back L i) i w (by omega) (by have := HLL.out; rw [← str_len, this.1, this.2]; omega) HS.out)
        rw [HLL.out.1, run_same hb] at HSM
        obtain ⟨b, hbd⟩ : ∃ b, Lz.back L i = b := ⟨_, rfl⟩
        obtain ⟨r, hrd⟩ : ∃ r, Lz.run L i = r := ⟨_, rfl⟩
        rw [hbd] at c1 HSM hk HT hb
        rw [hrd] at HSM hx hx4 HT
        obtain ⟨a, had⟩ : ∃ a, i - b = a := ⟨_, rfl⟩
        obtain ⟨q, hqd⟩ : ∃ q, r - 4 = q := ⟨_, rfl⟩
        obtain ⟨j, hjd⟩ : ∃ j, i + r = j := ⟨_, rfl⟩
        rw [had] at HSM
        rw [hqd, hjd] at HT
        have a1 : (i : Int) - (b : Int) = (a : Int) := by omega
        have q1 : (r : Int) - 4 = (q : Int) := by omega
        have j1 : (i : Int) + (r : Int) = (j : Int) := by omega
        have b1 : ¬ (b : Int) = 0 := by omega
        have b2 : ((b : Int) == 0) = false := by simp; omega
        have b3 : (b : Int) ≤ 32768 := by omega
        have r1 : (r : Int) ≤ 1048576 := by omega
        have j2 : (j : Int) ≤ 1048576 := by omega
        have t1 : (told : Int) ≤ (i : Int) := by omega
        have i2 : (i : Int) ≤ (n : Int) := by omega
        obtain ⟨E, hE⟩ : ∃ E, s.extract told i = E := ⟨_, rfl⟩
        have hEd : E.data.toList = (L.drop told).take (i - told) := by rw [← hE, data_mid, HLL.out.1]
        have hEs : E.size = i - told := by rw [← str_len, hEd, List.length_take, List.length_drop, HLL.out.2]; omega
        have HR := hideIt hr
        have HEE := hideIt (And.intro hEd hEs)
        have HO := hideIt ho
        have HJ := hideIt hjd
        have HQ := hideIt hqd
        clear hr ht ho hb hbd hrd had hqd hjd hk hEd hEs
        have l1 : Hid ((Cd.numL (i - told)).length ≤ 4 ∧ (Cd.numL b).length ≤ 4 ∧ (Cd.numL q).length ≤ 4) := hideIt ⟨numL_small _ (by omega), numL_small _ (by omega), numL_small _ (by have := HQ.out; omega)⟩
        obtain ⟨O1, hO1⟩ : ∃ O, out ++ Cd.numL E.size ++ E.data.toList = O := ⟨_, rfl⟩
        obtain ⟨O2, hO2⟩ : ∃ O, O1 ++ Cd.numL b = O := ⟨_, rfl⟩
        obtain ⟨O3, hO3⟩ : ∃ O, O2 ++ Cd.numL q = O := ⟨_, rfl⟩
        have z1 : O1.length ≤ 8 + 4 * told + 4 + (i - told) := by
          have := HEE.out
          rw [← hO1, List.length_append, List.length_append, str_len, this.2]
          have := l1.out.1; have := HO.out; omega
        have z2 : O2.length ≤ 8 + 4 * told + 8 + (i - told) := by rw [← hO2, List.length_append]; have := l1.out.2.1; omega
        have z3 : O3.length ≤ 8 + 4 * told + 12 + (i - told) := by rw [← hO3, List.length_append]; have := l1.out.2.2; omega
        have HO3 : Hid (Lz.press L = O3 ++ Lz.tell L j j) := by
          refine hideIt ?_
          rw [HT.out, ← hO3, ← hO2, ← hO1, HEE.out.1, HEE.out.2]
          simp only [List.append_assoc]
        have HZ := hideIt (And.intro z1 (And.intro z2 z3))
        have HM : Hid (∀ w1, Below wr.heap.size wr w1 → Calls Tryz.prog 67 #[u4, .string E] w1 fun e w' => ∃ v', e = .returned v' ∧ PrMem N gB n (Lz.back L) O1 v' w w') := by
          refine hideIt (fun w1 hb1 => ?_)
          have hr := HR.out.under hb1
          have := HAL.out N E u4 out w1 hr.own hr.size (by have := HEE.out.2; omega) (by have := HO.out; omega)
          rw [hO1] at this
          exact this.mono (by rintro e w' ⟨v', rfl, hg⟩; exact ⟨v', rfl, hr.next hg⟩)
        have HM2 : Hid (∀ w1 v1, PrMem N gB n (Lz.back L) O1 v1 w w1 → Calls Tryz.prog 64 #[v1, .int .i64 (b : Int)] w1 fun e w' => ∃ v', e = .returned v' ∧ PrMem N gB n (Lz.back L) O2 v' w w') := by
          refine hideIt (fun w1 v1 hr => ?_)
          have := HA.out N b v1 O1 w1 hr.own hr.size (by omega) (by have := HZ.out.1; omega)
          rw [hO2] at this
          exact this.mono (by rintro e w' ⟨v', rfl, hg⟩; exact ⟨v', rfl, hr.next hg⟩)
        have HM3 : Hid (∀ w1 v1, PrMem N gB n (Lz.back L) O2 v1 w w1 → Calls Tryz.prog 64 #[v1, .int .i64 (q : Int)] w1 fun e w' => ∃ v', e = .returned v' ∧ PrMem N gB n (Lz.back L) O3 v' w w') := by
          refine hideIt (fun w1 v1 hr => ?_)
          have := HA.out N q v1 O2 w1 hr.own hr.size (by omega) (by have := HZ.out.2.1; omega)
          rw [hO3] at this
          exact this.mono (by rintro e w' ⟨v', rfl, hg⟩; exact ⟨v', rfl, hr.next hg⟩)
        clear hO1 hO2 hO3 z1 z2 z3 HA HAL HT
        go_wp2_with (first | (go_at_call 66; refine (HSM.out _).mono ?_; rintro e w1 ⟨rfl, hb1⟩) | (go_at_call 67; refine (HM.out _ hb1).mono ?_; rintro e w2 ⟨v2, rfl, hp2⟩; have HP2 := hideIt hp2; clear hp2) | (go_at_call_of 64 (Value.int IntKind.i64 (b : Int)); refine (HM2.out _ _ HP2.out).mono ?_; rintro e w3 ⟨v3, rfl, hp3⟩; have HP3 := hideIt hp3; clear hp3) | (go_at_call 64; refine (HM3.out _ _ HP3.out).mono ?_; rintro e w4 ⟨v4, rfl, hp4⟩; have HP4 := hideIt hp4; clear hp4))
        go_roundw
        case rel => exact ⟨j, j, O3, by omega, by have := HJ.out; omega, by rfl, by rfl, HO3.out, by have := HZ.out.2.2; have := HJ.out; omega, HP4.out⟩
        case measure => have := HJ.out; simp [intOf]; omega
    · have hid : decide ((i : Int) < (n : Int)) = false := by simp; omega
      have HT := hideIt ht
      rw [Lz.tell_end (by rw [HLL.out.2]; exact hlt), HLL.out.2] at HT
      by_cases htl : told < n
      · have hid2 : decide ((told : Int) < (n : Int)) = true := by simp; omega
        have t2 : (told : Int) ≤ (n : Int) := by omega
        rw [if_pos htl] at HT
        obtain ⟨E, hE⟩ : ∃ E, s.extract told n = E := ⟨_, rfl⟩
        have hsz : s.size = n := by rw [← str_len, HLL.out.1, HLL.out.2]
        have hEd : E.data.toList = L.drop told := by rw [← hE, ← hsz, data_rest, HLL.out.1]
        have hEs : E.size = n - told := by rw [← str_len, hEd, List.length_drop, HLL.out.2]
        have HM : Hid (Calls Tryz.prog 67 #[u4, .string E] wr fun e w' => ∃ v', e = .returned v' ∧ (convert 90 9 v').run Tryz.prog w' = .ok (.string (bs (Lz.press L))) w' ∧ Below N w w') := by
          refine hideIt ?_
          have := HAL.out N E u4 out wr hr.own hr.size (by omega) (by omega)
          rw [hEd, hEs, List.append_assoc, ← HT.out] at this
          exact this.mono (by rintro e w' ⟨v', rfl, hg⟩; exact ⟨v', rfl, run_own hg.own, hr.below.trans hg.below⟩)
        clear hr ht ho hEd hEs
        go_wp2_with (first | (go_at_call 67; refine HM.out.mono ?_; rintro e w2 ⟨v2, rfl, hcv, hbb⟩))
        go_ret2
        exact ⟨rfl, hbb⟩
      · have hid2 : decide ((told : Int) < (n : Int)) = false := by simp; omega
        rw [if_neg htl, List.append_nil] at HT
        have hcv : (convert 90 9 u4).run Tryz.prog wr = .ok (.string (bs (Lz.press L))) wr := by rw [HT.out]; exact run_own hr.own
        have HR := hideIt hr
        clear hr ht ho
        go_wp2
        go_ret2
        exact ⟨rfl, HR.out.below⟩
end Go.Proofs.YtbmhhlkjgnijgaaGreatDoor.Ld
