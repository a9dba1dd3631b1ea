/- The pieces that the steps of a delta put together, gone over by a function that is ranged over: walked. -/
import Derived.Test.YtdbbgpcjclmelaaGreatDoorDeDmd
import Derived.Sort.QuietIn
namespace Go.Proofs.YtdbbgpcjclmelaaGreatDoor.De
open Cb
open Go.RowKit Go.Shelf
attribute [local go_sem] Oper.semAt_some
/-- A piece and an error. -/
abbrev Pc := { p : List UInt8 × Nat // p.1.length ≤ 1000000 ∧ p.2 ≤ 6 }
abbrev pcE (x : Pc) : Array Value := #[.string (bs x.1.1), .int .i64 (x.1.2 : Int)]
def mkPc (p : List UInt8) (e : Nat) : Pc := if h : p.length ≤ 1000000 ∧ e ≤ 6 then ⟨(p, e), h⟩ else ⟨([], 0), by simp⟩
theorem mkPc_val {p : List UInt8} {e : Nat} (h : p.length ≤ 1000000) (he : e ≤ 6) : (mkPc p e).1 = (p, e) := by rw [mkPc, dif_pos ⟨h, he⟩]
namespace Dl
theorem rd_small (B L : List UInt8) (left : Nat) : (rd B L left).2.2 ≤ 6 := by
  have := nm_small L
  have := nm_small (nm L).2.1
  unfold rd rdP rdT
  repeat' split
  all_goals first | assumption | simp
theorem rd_bad {B L : List UInt8} {left : Nat} (h : (rd B L left).2.2 ≠ 0) : (rd B L left).1 = [] := by
  unfold rd rdP rdT at h ⊢
  repeat' split
  all_goals first | rfl | skip
  all_goals simp_all
theorem rd_good {B L : List UInt8} {left : Nat} (h : (rd B L left).2.2 = 0) : 1 ≤ (rd B L left).1.length ∧ (rd B L left).1.length ≤ left ∧ (rd B L left).2.1.length ≤ L.length := by
  have a1 := nm_len L
  have a2 := nm_len (nm L).2.1
  unfold rd rdP rdT at h ⊢
  by_cases c1 : (nm L).2.2 ≠ 0
  · rw [if_pos c1] at h
    exact absurd h c1
  · rw [if_neg c1] at h ⊢
    by_cases c2 : (nm L).1 % 2 = 1
    · rw [if_pos c2] at h ⊢
      by_cases c3 : (nm (nm L).2.1).2.2 ≠ 0
      · rw [if_pos c3] at h
        exact absurd h c3
      · rw [if_neg c3] at h ⊢
        by_cases c4 : left ≤ (nm L).1 / 2
        · rw [if_pos c4] at h
          simp at h
        · rw [if_neg c4] at h ⊢
          by_cases c5 : B.length < (nm (nm L).2.1).1 ∨ B.length - (nm (nm L).2.1).1 < (nm L).1 / 2 + 1
          · rw [if_pos c5] at h
            simp at h
          · rw [if_neg c5]
            simp only [List.length_take, List.length_drop]
            omega
    · rw [if_neg c2] at h ⊢
      by_cases c4 : left ≤ (nm L).1 / 2
      · rw [if_pos c4] at h
        simp at h
      · rw [if_neg c4] at h ⊢
        by_cases c5 : (nm L).2.1.length < (nm L).1 / 2 + 1
        · rw [if_pos c5] at h
          simp at h
        · rw [if_neg c5]
          simp only [List.length_take, List.length_drop]
          omega
/-- The pieces of steps, each with its error; at an error they end. -/
def pcs (B : List UInt8) : Nat → Nat → List UInt8 → List Pc
  | 0, _, _ => []
  | f + 1, left, L => if 0 < left then
      (if (rd B L left).2.2 ≠ 0 then [mkPc (rd B L left).1 (rd B L left).2.2] else mkPc (rd B L left).1 0 :: pcs B f (left - (rd B L left).1.length) (rd B L left).2.1)
    else if L = [] then [] else [mkPc [] 5]
theorem pcs_len (B : List UInt8) : ∀ (f left : Nat) (L : List UInt8), (pcs B f left L).length ≤ f
  | 0, _, _ => Nat.le_refl _
  | f + 1, left, L => by
    rw [pcs]
    split
    · split
      · simp
      · have := pcs_len B f (left - (rd B L left).1.length) (rd B L left).2.1
        simp; omega
    · split
      · simp
      · simp
end Dl
set_option maxRecDepth 100000 in
set_option maxHeartbeats 2000000 in
theorem pieces1_in (l Bb Bs Bz : Nat) (b s : ByteArray) (size : Nat) (hb : b.size ≤ 100000000) (hs : s.size ≤ 100000000) (hz : size ≤ 1000000) (n : Nat) (hn : 2 ≤ n) (xs : List Pc) (hxs : xs = Dl.pcs b.data.toList (size + 1) size s.data.toList) (J Jx : List Pc → World → Prop)
    (hJ : ∀ pre W q, J pre W → J pre (W.drewN q))
    (hY : ∀ pre x W, J pre W → pre.length < xs.length → YieldAt Fence.wide (n - 1) Tryz.prog l (pcE x) W fun e W' =>
      (e = .returned (.bool true) ∧ J (pre ++ [x]) W' ∧ KpC Bb W W') ∨ (e = .returned (.bool false) ∧ Jx (pre ++ [x]) W'))
    (W : World) (hBb : W.cell? ⟨Bb, 0, none⟩ = some (.string b)) (hBs : W.cell? ⟨Bs, 0, none⟩ = some (.string s)) (hBz : W.cell? ⟨Bz, 0, none⟩ = some (.int .i64 (size : Int))) (h0 : J [] W) :
    CallsIn Fence.wide n Tryz.prog 123 #[.func (.yield l) #[] #[], .pointer (some ⟨Bs, 0, none⟩), .pointer (some ⟨Bz, 0, none⟩), .pointer (some ⟨Bb, 0, none⟩)] W fun e W' => (∃ v, e = .returned v) ∧
      ((∃ ys, ys = xs ∧ J ys W') ∨ (∃ pre, pre <+: xs ∧ Jx pre W')) := by
  obtain ⟨B, hB⟩ : ∃ B, b.data.toList = B := ⟨_, rfl⟩
  have HRD := hideIt (fun (t : ByteArray) (left : Nat) (w : World) (ht : t.size ≤ 100000000) (hl : left ≤ 1000000) => readStep_any b t left w hb ht (by omega))
  rw [hB] at HRD hxs
  have zi : (size : Int) ≤ 1000000 := by omega
  have hn1 : 1 ≤ n := by omega
  refine callsIn_of_wp Tryz.func123 rfl trivial ?_ rfl
  simp only [Tryz.ntmps123, List.size_toArray, List.length_cons, List.length_nil, Nat.reduceAdd, Nat.reduceSub, Array.replicate_succ, Array.replicate_zero, List.push_toArray, List.append_toArray, List.nil_append, List.cons_append]
  gi_wp2
  gi_quiet (fail)
  gi_wp2
  have c1 : (W.drewN nq).cell? ⟨Bb, 0, none⟩ = some (.string b) := hBb
  have j1 := hJ [] W nq h0
  obtain ⟨W0, hW0⟩ : ∃ W0, W.drewN nq = W0 := ⟨_, rfl⟩
  rw [hW0] at c1 j1 ⊢
  clear hBb hBs hBz h0 hW0
  gi_loopw [5, 6] (fun t p wr => ∃ (pre : List Pc) (f left : Nat) (r : ByteArray), t = .string r ∧ p = .int .i64 (left : Int) ∧ left ≤ 1000000 ∧ r.size ≤ 100000000 ∧ left < f ∧ xs = pre ++ Dl.pcs B f left r.data.toList ∧ wr.cell? ⟨Bb, 0, none⟩ = some (.string b) ∧ J pre wr) (fun _ p _ => (intOf p).toNat)
  case atStart => exact ⟨[], size + 1, size, s, rfl, rfl, hz, hs, by omega, hxs, c1, j1⟩
  case round =>
    obtain ⟨pre, f, left, r, rfl, rfl, hl, hrs, hf, hx, hc, hJs⟩ := hrel
    clear c1 j1 hxs
    obtain ⟨f', rfl⟩ : ∃ f', f = f' + 1 := ⟨f - 1, by omega⟩
    rw [Dl.pcs] at hx
    have li : (left : Int) ≤ 1000000 := by omega
    by_cases h0 : 0 < left
    · rw [if_pos h0] at hx
      have g0 : (0 : Int) < (left : Int) := by omega
      have HR := hideIt (HRD.out r left wr hrs hl)
      obtain ⟨L, hL⟩ : ∃ L, r.data.toList = L := ⟨_, rfl⟩
      rw [hL] at HR hx
      have a1 := Dl.rd_small B L left
      have a2 := @Dl.rd_good B L left
      have a3 := @Dl.rd_bad B L left
      obtain ⟨⟨P, R, z⟩, hT⟩ : ∃ T, Dl.rd B L left = T := ⟨_, rfl⟩
      rw [hT] at HR hx a1 a2 a3
      simp only at HR hx a1 a2 a3
      by_cases hz0 : z = 0
      · subst hz0
        rw [if_neg (by simp)] at hx
        obtain ⟨b1, b2, b3⟩ := a2 rfl
        have hlen : pre.length < xs.length := by rw [hx]; simp
        have hval : (mkPc P 0).1 = (P, 0) := mkPc_val (by omega) (by omega)
        have hPs : (bs P).size = P.length := bs_size P
        obtain ⟨m, hm⟩ : ∃ m, P.length = m := ⟨_, rfl⟩
        rw [hm] at hx b1 b2 hPs
        obtain ⟨d, hd⟩ : ∃ d, left - m = d := ⟨_, rfl⟩
        rw [hd] at hx
        have hPi : ((bs P).size : Int) = (m : Int) := by omega
        have d1 : (left : Int) - (m : Int) = (d : Int) := by omega
        have HX := hideIt hx
        have HY : Hid (∀ q, YieldAt Fence.wide (n - 1) Tryz.prog l #[.string (bs P), .int .i64 0] (wr.drewN q) fun e W' =>
            (e = .returned (.bool true) ∧ J (pre ++ [mkPc P 0]) W' ∧ KpC Bb (wr.drewN q) W') ∨ (e = .returned (.bool false) ∧ Jx (pre ++ [mkPc P 0]) W')) := by
          refine hideIt (fun q => ?_)
          have := hY pre (mkPc P 0) (wr.drewN q) (hJ _ _ q hJs) hlen
          simp only [pcE, hval] at this
          exact this
        have HM : Hid (left - m = d ∧ 1 ≤ m ∧ m ≤ left ∧ R.length ≤ r.size) := hideIt ⟨hd, b1, b2, by rw [← str_len, hL]; exact b3⟩
        obtain ⟨PP, hPP⟩ : ∃ X, bs P = X := ⟨_, rfl⟩
        obtain ⟨RR, hRR⟩ : ∃ X, bs R = X := ⟨_, rfl⟩
        simp only [trio] at HR
        rw [hPP] at HR HY hPi
        rw [hRR] at HR
        have HRR : Hid (RR.data.toList = R) := hideIt (by rw [← hRR, bs_list])
        clear hx a1 a2 a3 hval hm hd hT hJs hPs hL hRR hPP b3 hlen
        gi_wp2_with (refine ⟨trivial, ?_⟩; gi_at_call 124; refine (callsIn_wide.2 HR.out).mono ?_; rintro e w2 ⟨rfl, q, hw2⟩; obtain rfl := hw2.symm; obtain ⟨fn, tmps, assign, body, hy, hRo⟩ := HY.out q)
        refine hRo.mono ?_
        rintro e W3 (⟨rfl, hJ3, hk3⟩ | ⟨rfl, hJx3⟩)
        · have hc3 : W3.cell? ⟨Bb, 0, none⟩ = some (.string b) := Eq.trans hk3 hc
          gi_wp2
          go_roundw
          case rel =>
            obtain ⟨m1, m2, m3, m4⟩ := HM.out
            exact ⟨pre ++ [mkPc P 0], f', d, RR, rfl, rfl, by omega, by rw [← str_len, HRR.out]; omega, by omega, by rw [HX.out, HRR.out]; simp, hc3, hJ3⟩
          case measure => obtain ⟨m1, m2, m3, m4⟩ := HM.out; simp [intOf]; omega
        · gi_wp2
          refine bodyPost_ret (results_none rfl _ _ _) rfl ?_
          exact ⟨⟨_, rfl⟩, .inr ⟨_, by rw [HX.out]; exact ⟨_, by simp; rfl⟩, hJx3⟩⟩
      · rw [if_pos hz0] at hx
        have eP := a3 hz0
        subst eP
        have z1 : ¬ (z : Int) = 0 := by omega
        have z2 : ((z : Int) == 0) = false := beq_eq_false_iff_ne.2 z1
        have hlen : pre.length < xs.length := by rw [hx]; simp
        have hval : (mkPc [] z).1 = ([], z) := mkPc_val (by simp) a1
        have HX := hideIt hx
        have HY : Hid (∀ q, YieldAt Fence.wide (n - 1) Tryz.prog l #[.string (bs []), .int .i64 (z : Int)] (wr.drewN q) fun e W' =>
            (e = .returned (.bool true) ∧ J (pre ++ [mkPc [] z]) W' ∧ KpC Bb (wr.drewN q) W') ∨ (e = .returned (.bool false) ∧ Jx (pre ++ [mkPc [] z]) W')) := by
          refine hideIt (fun q => ?_)
          have := hY pre (mkPc [] z) (wr.drewN q) (hJ _ _ q hJs) hlen
          simp only [pcE, hval] at this
          exact this
        obtain ⟨PP, hPP⟩ : ∃ X, bs [] = X := ⟨_, rfl⟩
        obtain ⟨RR, hRR⟩ : ∃ X, bs R = X := ⟨_, rfl⟩
        simp only [trio] at HR
        rw [hPP] at HR HY
        rw [hRR] at HR
        clear hx a1 a2 a3 hval hT hJs hL hRR hPP hlen
        gi_wp2_with (refine ⟨trivial, ?_⟩; gi_at_call 124; refine (callsIn_wide.2 HR.out).mono ?_; rintro e w2 ⟨rfl, q, hw2⟩; obtain rfl := hw2.symm; obtain ⟨fn, tmps, assign, body, hy, hRo⟩ := HY.out q)
        refine hRo.mono ?_
        rintro e W3 (⟨rfl, hJ3, hk3⟩ | ⟨rfl, hJx3⟩)
        · gi_wp2
          refine bodyPost_ret (results_none rfl _ _ _) rfl ?_
          exact ⟨⟨_, rfl⟩, .inl (by rw [HX.out]; exact ⟨_, rfl, hJ3⟩)⟩
        · gi_wp2
          refine bodyPost_ret (results_none rfl _ _ _) rfl ?_
          exact ⟨⟨_, rfl⟩, .inr ⟨_, by rw [HX.out]; exact List.prefix_refl _, hJx3⟩⟩
    · rw [if_neg h0] at hx
      have g0 : ¬ (0 : Int) < (left : Int) := by omega
      by_cases hr0 : r.data.toList = []
      · rw [if_pos hr0, List.append_nil] at hx
        have q2 : r.toList = [] := by rw [ByteArray.toList_eq, hr0]
        have q1 : (r.toList == []) = true := by rw [q2]; rfl
        have HJ := hideIt hJs
        have HX := hideIt hx
        clear hx hJs hr0
        gi_wp2
        go_end0
        exact ⟨⟨_, rfl⟩, .inl (by rw [HX.out]; exact HJ.out)⟩
      · rw [if_neg hr0] at hx
        have q2 : ¬ r.toList = [] := by rw [ByteArray.toList_eq]; exact hr0
        have q1 : (r.toList == []) = false := beq_eq_false_iff_ne.2 q2
        have hlen : pre.length < xs.length := by rw [hx]; simp
        have hval : (mkPc [] 5).1 = ([], 5) := mkPc_val (by simp) (by simp)
        have HX := hideIt hx
        have HY : YieldAt Fence.wide (n - 1) Tryz.prog l #[.string ⟨#[]⟩, .int .i64 5] wr fun e W' =>
            (e = .returned (.bool true) ∧ J (pre ++ [mkPc [] 5]) W' ∧ KpC Bb wr W') ∨ (e = .returned (.bool false) ∧ Jx (pre ++ [mkPc [] 5]) W') := by
          have := hY pre (mkPc [] 5) wr hJs hlen
          simp only [pcE, hval] at this
          exact this
        obtain ⟨fn, tmps, assign, body, hy, hRo⟩ := HY
        clear hx hJs hlen hr0 hval
        gi_wp2
        refine hRo.mono ?_
        rintro e W3 (⟨rfl, hJ3, hk3⟩ | ⟨rfl, hJx3⟩)
        · gi_wp2
          go_end0
          exact ⟨⟨_, rfl⟩, .inl (by rw [HX.out]; exact ⟨_, rfl, hJ3⟩)⟩
        · gi_wp2
          go_end0
          exact ⟨⟨_, rfl⟩, .inr ⟨_, by rw [HX.out]; exact List.prefix_refl _, hJx3⟩⟩
theorem pieces_stops (n : Nat) (hn : 2 ≤ n) (Bb Bs Bz : Nat) (b s : ByteArray) (size : Nat) (hb : b.size ≤ 100000000) (hs : s.size ≤ 100000000) (hz : size ≤ 1000000) (xs : List Pc) (hxs : xs = Dl.pcs b.data.toList (size + 1) size s.data.toList) (w : World)
    (l1 : Bb < w.heap.size) (l2 : Bs < w.heap.size) (l3 : Bz < w.heap.size) (h1 : w.cell? ⟨Bb, 0, none⟩ = some (.string b)) (h2 : w.cell? ⟨Bs, 0, none⟩ = some (.string s)) (h3 : w.cell? ⟨Bz, 0, none⟩ = some (.int .i64 (size : Int))) :
    SeqStopsK Fence.wide n Tryz.prog 123 #[.pointer (some ⟨Bs, 0, none⟩), .pointer (some ⟨Bz, 0, none⟩), .pointer (some ⟨Bb, 0, none⟩)] pcE (KpC Bb) (fun ys => ys = xs) (fun pre => pre <+: xs) xs.length w := fun l J Jx W hW hJ _ hY h0 =>
  pieces1_in l Bb Bs Bz b s size hb hs hz n hn xs hxs J Jx (fun pre W q h => hJ pre W _ none h ⟨rfl, rfl, rfl, Nat.le_refl _, fun _ _ _ => rfl⟩ (fun r e => by cases e)) hY W ((hW.cell (p := ⟨Bb, 0, none⟩) l1).trans h1) ((hW.cell (p := ⟨Bs, 0, none⟩) l2).trans h2) ((hW.cell (p := ⟨Bz, 0, none⟩) l3).trans h3) h0
set_option maxHeartbeats 1000000 in
theorem pieces_in (n : Nat) (b s : ByteArray) (size : Int) (w : World) :
    CallsIn Fence.wide n Tryz.prog 97 #[.string b, .string s, .int .i64 size] w fun e w' => e = .returned (.func (.func 123) #[] #[.pointer (some ⟨w.heap.size + 1, 0, none⟩), .pointer (some ⟨w.heap.size + 1 + 1, 0, none⟩), .pointer (some ⟨w.heap.size, 0, none⟩)]) ∧ w' = ((w.alloc (.cells #[.string b] 9)).alloc (.cells #[.string s] 9)).alloc (.cells #[.int .i64 size] 3) := by
  refine callsIn_of_wp Tryz.func97 rfl trivial ?_ rfl
  simp only [Tryz.ntmps97, List.size_toArray, List.length_cons, List.length_nil, Nat.reduceAdd, Nat.reduceSub, Array.replicate_succ, Array.replicate_zero, List.push_toArray, List.append_toArray, List.nil_append, List.cons_append]
  gi_wp2
  go_ret
  exact ⟨rfl, rfl⟩
namespace Dl
/-- What pieces come to: the first error, or all of them. -/
def fin : List Pc → Nat × List UInt8
  | [] => (0, [])
  | x :: t => if x.1.2 ≠ 0 then (x.1.2, []) else if (fin t).1 ≠ 0 then ((fin t).1, []) else (0, x.1.1 ++ (fin t).2)
/-- The text that steps make of a base, as the program reads them. -/
def stpP (B : List UInt8) (size : Nat) : Nat → List UInt8 → List UInt8 → Nat × List UInt8
  | 0, _, _ => (6, [])
  | f + 1, T, L =>
    if T.length < size then (if (rd B L (size - T.length)).2.2 ≠ 0 then ((rd B L (size - T.length)).2.2, []) else stpP B size f (T ++ (rd B L (size - T.length)).1) (rd B L (size - T.length)).2.1)
    else if L = [] then (0, T) else (5, [])
theorem stp_pcs (B : List UInt8) (size : Nat) (hz : size ≤ 1000000) : ∀ (f : Nat) (T L : List UInt8), T.length ≤ size → size - T.length < f →
    stpP B size f T L = if (fin (pcs B f (size - T.length) L)).1 ≠ 0 then ((fin (pcs B f (size - T.length) L)).1, []) else (0, T ++ (fin (pcs B f (size - T.length) L)).2)
  | 0, _, _, _, h => by omega
  | f + 1, T, L, hT, hf => by
    by_cases h0 : T.length < size
    · rw [stpP, if_pos h0]
      have e2 : pcs B (f + 1) (size - T.length) L = (if (rd B L (size - T.length)).2.2 ≠ 0 then [mkPc (rd B L (size - T.length)).1 (rd B L (size - T.length)).2.2] else mkPc (rd B L (size - T.length)).1 0 :: pcs B f (size - T.length - (rd B L (size - T.length)).1.length) (rd B L (size - T.length)).2.1) := by rw [pcs, if_pos (by omega)]
      rw [e2]
      clear e2
      have a1 := rd_small B L (size - T.length)
      have a2 := @rd_good B L (size - T.length)
      have a3 := @rd_bad B L (size - T.length)
      obtain ⟨⟨P, R, z⟩, hR⟩ : ∃ X, rd B L (size - T.length) = X := ⟨_, rfl⟩
      rw [hR] at a1 a2 a3 ⊢
      simp only at a1 a2 a3 ⊢
      by_cases hz0 : z = 0
      · subst hz0
        obtain ⟨b1, b2, _⟩ := a2 rfl
        have hv : (mkPc P 0).1 = (P, 0) := mkPc_val (by omega) (by omega)
        have e0 : ∀ {α : Type} (a b : α), (if (0 : Nat) ≠ 0 then a else b) = b := fun a b => if_neg (by simp)
        rw [e0, e0, stp_pcs B size hz f (T ++ P) R (by rw [List.length_append]; omega) (by rw [List.length_append]; omega), List.length_append, show size - (T.length + P.length) = size - T.length - P.length by omega]
        rw [fin, hv]
        simp only
        rw [e0]
        by_cases c : (fin (pcs B f (size - T.length - P.length) R)).1 ≠ 0
        · rw [if_pos c, if_pos c]
          simp only
          rw [if_pos c]
        · rw [if_neg c, if_neg c]
          simp
      · have hv : (mkPc P z).1 = (P, z) := mkPc_val (by rw [a3 hz0]; simp) a1
        rw [if_pos hz0, if_pos hz0, fin, hv]
        simp only
        rw [if_pos hz0]
        simp only
        rw [if_pos hz0]
    · have e2 : pcs B (f + 1) (size - T.length) L = (if L = [] then [] else [mkPc [] 5]) := by rw [pcs, if_neg (by omega)]
      rw [stpP, if_neg h0, e2]
      by_cases hL : L = []
      · rw [if_pos hL, if_pos hL]
        simp [fin]
      · have hv : (mkPc [] 5).1 = ([], 5) := mkPc_val (by simp) (by simp)
        rw [if_neg hL, if_neg hL, fin, hv]
        simp
/-- Where the document makes a text, the program makes the same. -/
theorem stpP_ok (B : List UInt8) (size : Nat) : ∀ (f : Nat) (T L : List UInt8), (stp B size f T L).1 = 0 → stpP B size f T L = stp B size f T L
  | 0, _, _, h => by simp [stp] at h
  | f + 1, T, L, h => by
    rw [stp] at h ⊢
    rw [stpP]
    by_cases h0 : T.length < size
    · rw [if_pos h0] at h ⊢
      rw [if_pos h0]
      unfold rd rdP rdT
      by_cases c1 : (nm L).2.2 ≠ 0
      · rw [if_pos c1] at h
        exact absurd h c1
      · rw [if_neg c1] at h ⊢
        by_cases c2 : size - T.length < (nm L).1 / 2 + 1
        · rw [if_pos c2] at h
          simp at h
        · rw [if_neg c2] at h ⊢
          simp only [if_neg c1, if_neg (show ¬ size - T.length ≤ (nm L).1 / 2 by omega)]
          by_cases c3 : (nm L).1 % 2 = 0
          · rw [if_pos c3] at h ⊢
            simp only [if_neg (show ¬ (nm L).1 % 2 = 1 by omega)]
            by_cases c4 : (nm L).2.1.length < (nm L).1 / 2 + 1
            · rw [if_pos c4] at h
              simp at h
            · rw [if_neg c4] at h ⊢
              simp only [if_neg c4]
              rw [if_neg (by simp)]
              exact stpP_ok B size f _ _ h
          · rw [if_neg c3] at h ⊢
            simp only [if_pos (show (nm L).1 % 2 = 1 by omega)]
            by_cases c4 : (nm (nm L).2.1).2.2 ≠ 0
            · rw [if_pos c4] at h
              exact absurd h c4
            · rw [if_neg c4] at h ⊢
              simp only [if_neg c4]
              by_cases c5 : B.length < (nm (nm L).2.1).1 ∨ B.length - (nm (nm L).2.1).1 < (nm L).1 / 2 + 1
              · rw [if_pos c5] at h
                simp at h
              · rw [if_neg c5] at h ⊢
                simp only [if_neg c5]
                rw [if_neg (by simp)]
                exact stpP_ok B size f _ _ h
    · rw [if_neg h0, if_neg h0]
end Dl
end Go.Proofs.YtdbbgpcjclmelaaGreatDoor.De
