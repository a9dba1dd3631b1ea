/- Packs: a base and an item, read: walked. -/
import Derived.Test.YtjiigdjopcegeaaDoorPkKp
import Derived.Test.YtjiigdjopcegeaaDoorLdSpd
import Derived.Test.YtjiigdjopcegeaaDoorShelf
import Derived.Deep.RegionHeld3
namespace Go.Proofs.YtjiigdjopcegeaaDoor.Pk
open Cb Ld Go.RowKit Go.Shelf
def E0 : ByteArray := ⟨#[]⟩
theorem bs_nil : bs [] = E0 := rfl
theorem drop_bs (L : List UInt8) (k : Nat) : (bs L).extract k (bs L).size = bs (L.drop k) := by
  apply ByteArray.ext
  apply Array.toList_inj.1
  simp [bs, List.extract_eq_take_drop, ByteArray.size]
  exact List.take_of_length_le (by simp)
theorem ext_bs (L : List UInt8) (a n : Nat) : (bs L).extract a (a + n) = bs ((L.drop a).take n) := by
  apply ByteArray.ext
  apply Array.toList_inj.1
  simp [bs, List.extract_eq_take_drop]
theorem take_bs (L : List UInt8) (k : Nat) : (bs L).extract 0 k = bs (L.take k) := by
  have := ext_bs L 0 k
  rw [Nat.zero_add] at this
  rw [this, List.drop_zero]
theorem clone_any (s : ByteArray) (w : World) (hs : s.size ≤ 281474976710656) : Calls Tryd.prog 55 #[.string s] w fun e w' => e = .returned (.string s) ∧ Below w.heap.size w w' := by
  have H := hideIt (fun w => Tryd.stringslite_Clone s w hs)
  go_enter Tryd.func55, Tryd.ntmps55
  go_wp2_with (first | (go_at_call 66; refine (H.out _).mono ?_; rintro e w1 ⟨rfl, hb⟩))
  go_ret
  exact ⟨rfl, hb⟩
theorem nonempty_of {S : ByteArray} (h : 0 < S.size) : (S.toList == []) = false ∧ S.toList.isEmpty = false := by
  have hl : S.toList.length = S.size := by rw [ByteArray.toList_eq]; exact str_len S
  cases hx : S.toList with
  | nil => rw [hx] at hl; simp at hl; omega
  | cons a l => exact ⟨rfl, rfl⟩
def rbV (r : List UInt8 × Nat × Nat) : Value := .tuple #[.string (bs r.1), .int .i64 (r.2.1 : Int), .int .i64 (r.2.2 : Int)]
set_option maxHeartbeats 1600000 in
set_option maxRecDepth 100000 in
theorem readBase_any (L : List UInt8) (w : World) (hL : L.length ≤ 100000000) :
    Calls Tryd.prog 53 #[.string (bs L)] w fun e w' => e = .returned (rbV (rb L)) ∧ w' = w := by
  cases L with
  | nil =>
    have be : bs [] = (⟨#[]⟩ : ByteArray) := rfl
    have HV : Hid (rbV (rb []) = .tuple #[.string ⟨#[]⟩, .int .i64 0, .int .i64 4]) := hideIt rfl
    rw [be, HV.out]
    go_enter Tryd.func53, Tryd.ntmps53
    go_wp2
    go_ret3
    exact ⟨rfl, rfl⟩
  | cons c r =>
    have hex : (bs (c :: r)).extract 1 33 = bs (r.take 32) := by rw [show (33 : Nat) = 1 + 32 from rfl, ext_bs]; rfl
    obtain ⟨S, hS, h0, hc⟩ : ∃ S, bs (c :: r) = S ∧ ∃ h : 0 < S.size, S[0]'h = c := ⟨_, rfl, by rw [bs_size]; simp, rfl⟩
    have hsz : S.size = r.length + 1 := by rw [← hS, bs_size]; rfl
    obtain ⟨n1, n2⟩ := nonempty_of h0
    have i1 : (0 : Int) < (S.size : Int) := by omega
    have HRB : Hid (rb (c :: r) = if c = 119 then ([], 1, 0) else if c = 109 then (if r.length < 32 then ([], 0, 4) else (r.take 32, 33, 0)) else ([], 0, 6)) := hideIt rfl
    have hl : r.length ≤ 100000000 := by simp at hL; omega
    have si : (S.size : Int) ≤ 100000001 := by omega
    rw [hS] at hex ⊢
    have HC := hideIt hc
    clear hS hL
    by_cases c1 : c = 119
    · have y1 : ((S[0]'h0).toNat : Int) = 119 := by rw [hc, c1]; rfl
      have HV : Hid (rbV (rb (c :: r)) = .tuple #[.string ⟨#[]⟩, .int .i64 1, .int .i64 0]) := hideIt (by rw [HRB.out, if_pos c1]; rfl)
      rw [HV.out]
      clear hc c1
      go_enter Tryd.func53, Tryd.ntmps53
      go_wp2
      go_ret3
      exact ⟨rfl, rfl⟩
    · obtain ⟨u, hu⟩ : ∃ u, c.toNat = u := ⟨_, rfl⟩
      have y1 : ((S[0]'h0).toNat : Int) = (u : Int) := by rw [hc, hu]
      have u1 : ¬ (u : Int) = 119 := by
        intro e
        apply c1
        have : c.toNat = 119 := by omega
        exact UInt8.toNat_inj.1 this
      have u2 : ((u : Int) == 119) = false := beq_eq_false_iff_ne.2 u1
      by_cases c2 : c = 109
      · have v1 : (u : Int) = 109 := by rw [← hu, c2]; rfl
        have y2 : ((S[0]'h0).toNat : Int) = 109 := by rw [y1, v1]
        clear y1
        by_cases h32 : r.length < 32
        · have HV : Hid (rbV (rb (c :: r)) = .tuple #[.string ⟨#[]⟩, .int .i64 0, .int .i64 4]) := hideIt (by rw [HRB.out, if_neg c1, if_pos c2, if_pos h32]; rfl)
          have g1 : (S.size : Int) < 33 := by omega
          rw [HV.out]
          clear hc c1 c2 v1 u1 u2 hu
          go_enter Tryd.func53, Tryd.ntmps53
          go_wp2
          go_ret3
          exact ⟨rfl, rfl⟩
        · have HV : Hid (rbV (rb (c :: r)) = .tuple #[.string (bs (r.take 32)), .int .i64 33, .int .i64 0]) := hideIt (by rw [HRB.out, if_neg c1, if_pos c2, if_neg h32]; rfl)
          have g1 : ¬ (S.size : Int) < 33 := by omega
          have g2 : (33 : Int) ≤ (S.size : Int) := by omega
          have g3 : 33 ≤ S.size := by omega
          have g4 : ¬ S.size < 33 := by omega
          rw [HV.out]
          generalize bs (r.take 32) = T at hex ⊢
          clear hc c1 c2 v1 u1 u2 hu hsz h32 hl
          go_enter Tryd.func53, Tryd.ntmps53
          go_wp2
          go_ret3
          exact ⟨rfl, rfl⟩
      · have v1 : ¬ (u : Int) = 109 := by
          intro e
          apply c2
          have : c.toNat = 109 := by omega
          exact UInt8.toNat_inj.1 this
        have v2 : ((u : Int) == 109) = false := beq_eq_false_iff_ne.2 v1
        have HV : Hid (rbV (rb (c :: r)) = .tuple #[.string ⟨#[]⟩, .int .i64 0, .int .i64 6]) := hideIt (by rw [HRB.out, if_neg c1, if_neg c2]; rfl)
        rw [HV.out]
        clear hc c1 c2 hu
        go_enter Tryd.func53, Tryd.ntmps53
        go_wp2
        go_ret3
        exact ⟨rfl, rfl⟩
theorem rb_ok {L B : List UInt8} {k : Nat} (h : rb L = (B, k, 0)) : k ≤ L.length ∧ B.length ≤ 32 := by
  cases L with
  | nil => simp [rb] at h
  | cons c r =>
    rw [rb] at h
    split at h
    · simp only [Prod.mk.injEq] at h
      obtain ⟨rfl, rfl, _⟩ := h
      simp
    · split at h
      · split at h
        · simp at h
        · simp only [Prod.mk.injEq] at h
          obtain ⟨rfl, rfl, _⟩ := h
          simp
          omega
      · simp at h
/-- A variable that holds an item, as it stands in memory. -/
structure Box (w : World) (k : Nat) (x y : ByteArray) (z : Int) : Prop where
  c0 : w.cell? ⟨k, 0, none⟩ = some (.string x)
  c1 : w.cell? ⟨k, 1, none⟩ = some (.string y)
  c2 : w.cell? ⟨k, 2, none⟩ = some (.int .i64 z)
  f0 : w.frozen? ⟨k, 0, none⟩ = false
  f1 : w.frozen? ⟨k, 1, none⟩ = false
  f2 : w.frozen? ⟨k, 2, none⟩ = false
theorem cellAt {w : World} {g i : Nat} {cs : Array Value} {t : TypeId} {fr : Nat × Nat} {v : Value} (h : w.heap[g]? = some (.cells cs t fr)) (hv : cs[i]? = some v) : w.cell? ⟨g, i, none⟩ = some v := by simp [World.cell?, h, hv]
theorem Box.of {w : World} {k : Nat} {x y : ByteArray} {z : Int} {t : TypeId} (h : w.heap[k]? = some (.cells #[.string x, .string y, .int .i64 z] t (0, 0))) : Box w k x y z :=
  ⟨cellAt h rfl, cellAt h rfl, cellAt h rfl, Lib.frozen_of_heap h 0, Lib.frozen_of_heap h 1, Lib.frozen_of_heap h 2⟩
theorem put3 {w w1 : World} (h : Below w.heap.size w w1) (a b c : Value) : Below w.heap.size w (((w1.setCell ⟨w.heap.size, 0, none⟩ a).setCell ⟨w.heap.size, 1, none⟩ b).setCell ⟨w.heap.size, 2, none⟩ c) := ((h.setCell (p := ⟨w.heap.size, 0, none⟩) (Nat.le_refl _) _).setCell (p := ⟨w.heap.size, 1, none⟩) (Nat.le_refl _) _).setCell (p := ⟨w.heap.size, 2, none⟩) (Nat.le_refl _) _
theorem results_c3 {fn : Func} {p u v : Tmp} {ty : TypeId} (h : fn.results = #[.cell p ty, .tmp u, .tmp v]) (tmps : Array Value) (P : Program) (w : World) :
    (results fn tmps).run P w = ((asAddr (tmps.getD p undef)).run P w).andThen fun a w₁ => ((loadVar ty a).run P w₁).andThen fun x w₂ => .ok (.tuple #[x, tmps.getD u undef, tmps.getD v undef]) w₂ := by
  simp only [results, h]
  simp [Sem.run_bind, Result.andThen]
def itA (b d : List UInt8) (z : Int) : Value := .agg #[.string (bs b), .string (bs d), .int .i64 z]
/-- An item that was read at a place. -/
def riV (r : Ri) (a : Nat) : Value := if r.e = 0 then .tuple #[itA r.b r.d (a : Int), .int .i64 ((a + r.k : Nat) : Int), .int .i64 0] else .tuple #[itA [] [] 0, .int .i64 0, .int .i64 (r.e : Int)]
set_option maxHeartbeats 3200000 in
set_option maxRecDepth 100000 in
theorem readItem_any (S : List UInt8) (a : Nat) (w : World) (ha : a ≤ S.length) (hS : S.length ≤ 10000000) :
    Calls Tryd.prog 43 #[.string (bs S), .int .i64 (a : Int)] w fun e w' => e = .returned (riV (ri spPp (S.drop a)) a) ∧ Below w.heap.size w w' := by
  have HRB := hideIt (fun w => readBase_any (S.drop a) w (by simp; omega))
  have hex0 := drop_bs S a
  obtain ⟨B, k, z, hrb⟩ : ∃ B k z, rb (S.drop a) = (B, k, z) := ⟨_, _, _, rfl⟩
  have HRI : Hid (ri spPp (S.drop a) = if z ≠ 0 then ⟨[], [], 0, z⟩ else riB spPp B k ((S.drop a).drop k)) := hideIt (by rw [ri, hrb])
  have HOK := hideIt (rb_ok (L := S.drop a) (B := B) (k := k))
  rw [hrb] at HRB HOK
  simp only [rbV] at HRB
  obtain ⟨N, hN⟩ : ∃ N, (bs S).size = N := ⟨_, rfl⟩
  have hNl : N = S.length := by rw [← hN, bs_size]
  obtain ⟨T, hT⟩ : ∃ T, bs S = T := ⟨_, rfl⟩
  obtain ⟨T1, hT1⟩ : ∃ T1, bs (S.drop a) = T1 := ⟨_, rfl⟩
  have HT := hideIt hT
  rw [hT1] at HRB
  rw [hT, hT1, ← hT, hN, hT] at hex0
  have hTs : T.size = N := by rw [← hT]; exact hN
  have a1 : (a : Int) ≤ (N : Int) := by omega
  have nI : (N : Int) ≤ 10000000 := by omega
  obtain ⟨W, hW⟩ : ∃ W, w.alloc (.cells #[.string ⟨#[]⟩, .string ⟨#[]⟩, .int .i64 0] 37) = W := ⟨_, rfl⟩
  have HBW : Hid (Below w.heap.size w W) := hideIt (by rw [← hW]; exact (Below.refl _ _).alloc (Nat.le_refl _) _)
  have HKW : Hid (∀ w1, Below W.heap.size W w1 → Box w1 w.heap.size ⟨#[]⟩ ⟨#[]⟩ 0) := hideIt (fun w1 h1 => by
    have : W.heap[w.heap.size]? = some (.cells #[.string ⟨#[]⟩, .string ⟨#[]⟩, .int .i64 0] 37 (0, 0)) := by rw [← hW]; exact alloc_at rfl
    exact Box.of (t := 37) (by rw [h1.block _ (by rw [← hW]; simp)]; exact this))
  rw [hT]
  clear hT hT1 hN hrb
  by_cases hz : z = 0
  · subst hz
    rw [if_neg (by simp)] at HRI
    obtain ⟨hk, hB⟩ := HOK.out rfl
    have hk2 : a + k ≤ S.length := by simp at hk; omega
    obtain ⟨b, hb⟩ : ∃ b, a + k = b := ⟨_, rfl⟩
    have b1 : (a : Int) + (k : Int) = (b : Int) := by omega
    have b2 : (b : Int) ≤ (N : Int) := by omega
    rw [List.drop_drop, hb] at HRI
    have HU := hideIt (fun w => unnum_any (bs (S.drop b)) w (by rw [bs_size]; simp; omega))
    rw [bs_list] at HU
    have huk := Lz.unnum_k (S.drop b)
    have hex1 := drop_bs S b
    obtain ⟨n, j, z2, hu⟩ : ∃ n j z, Cd.unnum (S.drop b) = (n, j, z) := ⟨_, _, _, rfl⟩
    have HRI2 : Hid (ri spPp (S.drop a) = if z2 ≠ 0 then ⟨[], [], 0, z2⟩ else riN spPp B (k + j) ((S.drop b).drop j) n) := hideIt (by rw [HRI.out, riB, hu])
    rw [hu] at HU huk
    simp only [unV] at HU
    simp only at huk
    obtain ⟨T2, hT2⟩ : ∃ T2, bs (S.drop b) = T2 := ⟨_, rfl⟩
    rw [hT2] at HU
    rw [HT.out, hT2, hTs] at hex1
    have HB := hideIt hB
    clear hk hu hT2 HRI hB
    by_cases hz2 : z2 = 0
    · subst hz2
      have huk2 : b + j ≤ S.length := by simp at huk; omega
      obtain ⟨c, hc⟩ : ∃ c, b + j = c := ⟨_, rfl⟩
      have c1 : (b : Int) + (j : Int) = (c : Int) := by omega
      have c2 : (c : Int) ≤ (N : Int) := by omega
      obtain ⟨m, hm⟩ : ∃ m, N - c = m := ⟨_, rfl⟩
      have m1 : (N : Int) - (c : Int) = (m : Int) := by omega
      have hml : (S.drop c).length = m := by simp; omega
      have HRI3 : Hid (ri spPp (S.drop a) = riN spPp B (k + j) (S.drop c) n) := hideIt (by rw [HRI2.out, if_neg (by simp), List.drop_drop, hc])
      clear HRI2 huk
      by_cases hnm : n ≤ m
      · have q1 : ¬ (m : Int) < (n : Int) := by omega
        have q2 : decide ((m : Int) < (n : Int)) = false := decide_eq_false q1
        have q3 : ¬ m < n := by omega
        obtain ⟨d, hd⟩ : ∃ d, c + n = d := ⟨_, rfl⟩
        have d1 : (c : Int) + (n : Int) = (d : Int) := by omega
        have d2 : (d : Int) ≤ (N : Int) := by omega
        have d3 : (c : Int) ≤ (d : Int) := by omega
        have nB : (n : Int) ≤ 10000000 := by omega
        have hex2 := ext_bs S c n
        have HSP := hideIt (fun w => spread_gen ((S.drop c).take n) 1048576 w (by simp; omega))
        have HRI4 : Hid (ri spPp (S.drop a) = if (spPp ((S.drop c).take n)).1 ≠ 0 then ⟨[], [], 0, (spPp ((S.drop c).take n)).1⟩ else ⟨B, (spPp ((S.drop c).take n)).2, k + j + n, 0⟩) := hideIt (by rw [HRI3.out, riN, if_neg (by omega)])
        have HSE : Hid (spPp ((S.drop c).take n) = Lz.spP ((S.drop c).take n) 1048576) := hideIt rfl
        rw [hd] at hex2
        obtain ⟨X, hX⟩ : ∃ X, (S.drop c).take n = X := ⟨_, rfl⟩
        rw [hX] at hex2 HSP HRI4 HSE
        obtain ⟨z3, D, hsp⟩ : ∃ z D, Lz.spP X 1048576 = (z, D) := ⟨_, _, rfl⟩
        rw [HSE.out, hsp] at HRI4
        rw [hsp] at HSP
        simp only at HSP
        obtain ⟨T3, hT3⟩ : ∃ T3, bs X = T3 := ⟨_, rfl⟩
        rw [hT3] at HSP
        rw [HT.out, hT3] at hex2
        have HCL := hideIt (fun w => clone_any (bs B) w (by rw [bs_size]; have := HB.out; omega))
        obtain ⟨BB, hBB⟩ : ∃ BB, bs B = BB := ⟨_, rfl⟩
        obtain ⟨DD, hDD⟩ : ∃ DD, bs D = DD := ⟨_, rfl⟩
        rw [hBB] at HCL HRB
        rw [hDD] at HSP
        have HBD := hideIt (And.intro hBB hDD)
        have HS := hideIt (And.intro hb (And.intro hc hd))
        clear hX hsp hT3 hBB hDD HRI3 HSE hb hc hd hm hml hnm huk2 hk2 hNl ha hS
        by_cases hz3 : z3 = 0
        · subst hz3
          rw [if_neg (by simp)] at HRI4
          rw [HRI4.out, riV]
          simp only [if_true]
          go_enter Tryd.func43, Tryd.ntmps43
          go_wp2_with (first | (go_at_call 53; refine (HRB.out _).mono ?_; rintro e wx ⟨rfl, hwx⟩; obtain rfl := hwx.symm) | (go_at_call 25; refine (HU.out _).mono ?_; rintro e wx ⟨rfl, hwx⟩; obtain rfl := hwx.symm) | (go_at_call 54; refine (HSP.out _).mono ?_; rintro e w1 ⟨rfl, hb1⟩) | (go_at_call 55; refine (HCL.out _).mono ?_; rintro e w2 ⟨rfl, hb2⟩; obtain ⟨k0, k1, k2, f0, f1, f2⟩ := HKW.out w2 (below2 hb1 hb2)))
          (try simp only [Exit.inBlock, Exit.then])
          obtain ⟨hBB, hDD⟩ := HBD.out
          obtain ⟨e1, e2, e3⟩ := HS.out
          refine bodyPost_ret (v := .tuple #[.agg #[.string BB, .string DD, .int .i64 (a : Int)], .int .i64 (d : Int), .int .i64 0]) ?_ rfl ⟨?_, ?_⟩
          · rw [results_c3 rfl]
            go_simp
          · rw [itA, hBB, hDD, show a + (k + j + n) = d by omega]
          · exact put3 (below2 HBW.out (below2 hb1 hb2)) _ _ _
        · rw [if_pos hz3] at HRI4
          have w1 : ¬ (z3 : Int) = 0 := by omega
          have w2 : ((z3 : Int) != 0) = true := by simpa using w1
          have w3 : ((z3 : Int) == 0) = false := by simpa using w1
          rw [HRI4.out, riV]
          simp only [hz3, if_false]
          clear hz3
          go_enter Tryd.func43, Tryd.ntmps43
          go_wp2_with (first | (go_at_call 53; refine (HRB.out _).mono ?_; rintro e wx ⟨rfl, hwx⟩; obtain rfl := hwx.symm) | (go_at_call 25; refine (HU.out _).mono ?_; rintro e wx ⟨rfl, hwx⟩; obtain rfl := hwx.symm) | (go_at_call 54; refine (HSP.out _).mono ?_; rintro e w1 ⟨rfl, hb1⟩; obtain ⟨k0, k1, k2, f0, f1, f2⟩ := HKW.out w1 hb1))
          (try simp only [Exit.inBlock, Exit.then])
          refine bodyPost_ret (v := .tuple #[.agg #[.string ⟨#[]⟩, .string ⟨#[]⟩, .int .i64 0], .int .i64 0, .int .i64 (z3 : Int)]) ?_ rfl ⟨rfl, ?_⟩
          · rw [results_c3 rfl]
            go_simp
          · exact put3 (below2 HBW.out hb1) _ _ _
      · have q1 : (m : Int) < (n : Int) := by omega
        have q2 : decide ((m : Int) < (n : Int)) = true := decide_eq_true q1
        have q3 : m < n := by omega
        have HRI4 : Hid (ri spPp (S.drop a) = ⟨[], [], 0, 4⟩) := hideIt (by rw [HRI3.out, riN, if_pos (by omega)])
        rw [HRI4.out]
        have HE : Hid (riV ⟨[], [], 0, 4⟩ a = .tuple #[.agg #[.string ⟨#[]⟩, .string ⟨#[]⟩, .int .i64 0], .int .i64 0, .int .i64 4]) := hideIt rfl
        rw [HE.out]
        clear HRI3 hm hml hnm huk2 hk2 hNl ha hS hb hc
        obtain ⟨k0, k1, k2, f0, f1, f2⟩ := HKW.out W (Below.refl _ _)
        go_enter Tryd.func43, Tryd.ntmps43
        go_wp2_with (first | (go_at_call 53; refine (HRB.out _).mono ?_; rintro e wx ⟨rfl, hwx⟩; obtain rfl := hwx.symm) | (go_at_call 25; refine (HU.out _).mono ?_; rintro e wx ⟨rfl, hwx⟩; obtain rfl := hwx.symm))
        (try simp only [Exit.inBlock, Exit.then])
        refine bodyPost_ret (v := .tuple #[.agg #[.string ⟨#[]⟩, .string ⟨#[]⟩, .int .i64 0], .int .i64 0, .int .i64 4]) ?_ rfl ⟨rfl, ?_⟩
        · rw [results_c3 rfl]
          go_simp
        · exact put3 HBW.out _ _ _
    · rw [if_pos hz2] at HRI2
      have w1 : ¬ (z2 : Int) = 0 := by omega
      have w2 : ((z2 : Int) != 0) = true := by simpa using w1
      have w3 : ((z2 : Int) == 0) = false := by simpa using w1
      rw [HRI2.out, riV]
      simp only [hz2, if_false]
      clear hz2 huk hk2 hNl ha hS hb
      obtain ⟨k0, k1, k2, f0, f1, f2⟩ := HKW.out W (Below.refl _ _)
      go_enter Tryd.func43, Tryd.ntmps43
      go_wp2_with (first | (go_at_call 53; refine (HRB.out _).mono ?_; rintro e wx ⟨rfl, hwx⟩; obtain rfl := hwx.symm) | (go_at_call 25; refine (HU.out _).mono ?_; rintro e wx ⟨rfl, hwx⟩; obtain rfl := hwx.symm))
      (try simp only [Exit.inBlock, Exit.then])
      refine bodyPost_ret (v := .tuple #[.agg #[.string ⟨#[]⟩, .string ⟨#[]⟩, .int .i64 0], .int .i64 0, .int .i64 (z2 : Int)]) ?_ rfl ⟨rfl, ?_⟩
      · rw [results_c3 rfl]
        go_simp
      · exact put3 HBW.out _ _ _
  · rw [if_pos hz] at HRI
    have w1 : ¬ (z : Int) = 0 := by omega
    have w2 : ((z : Int) != 0) = true := by simpa using w1
    have w3 : ((z : Int) == 0) = false := by simpa using w1
    rw [HRI.out, riV]
    simp only [hz, if_false]
    clear hz hNl ha hS
    obtain ⟨k0, k1, k2, f0, f1, f2⟩ := HKW.out W (Below.refl _ _)
    go_enter Tryd.func43, Tryd.ntmps43
    go_wp2_with (first | (go_at_call 53; refine (HRB.out _).mono ?_; rintro e wx ⟨rfl, hwx⟩; obtain rfl := hwx.symm))
    (try simp only [Exit.inBlock, Exit.then])
    refine bodyPost_ret (v := .tuple #[.agg #[.string ⟨#[]⟩, .string ⟨#[]⟩, .int .i64 0], .int .i64 0, .int .i64 (z : Int)]) ?_ rfl ⟨rfl, ?_⟩
    · rw [results_c3 rfl]
      go_simp
    · exact put3 HBW.out _ _ _
end Go.Proofs.YtjiigdjopcegeaaDoor.Pk
