/- Packs, the document's: an item, read: walked. Packs, the document's: an item, the sum, all items: walked. Packs, the document's: all items: walked. -/
import Derived.Test.YtjiigdjopcegeaaDoorPzAll
import Derived.Test.YtjiigdjopcegeaaDoorLdSre
import Derived.Test.YtjiigdjopcegeaaDoorCbRefn
import Derived.Test.YtjiigdjopcegeaaDoorSaRef
import Derived.BigQuiet
import Derived.Deep.RegionLaw
namespace Go.Proofs.YtjiigdjopcegeaaDoor.Pk
open Cb Ld Go.RowKit Go.Shelf
/-- An item that was read, and what stands behind it. -/
def rgV (r : Ri) (L : List UInt8) : Value := if r.e = 0 then .tuple #[itA r.b r.d 0, .string (bs (L.drop r.k)), .int .i64 0] else .tuple #[itA [] [] 0, .string ⟨#[]⟩, .int .i64 (r.e : Int)]
abbrev Z3 : Obj := .cells #[.string ⟨#[]⟩, .string ⟨#[]⟩, .int .i64 0] 38
/-- Behind the beginning: the answer's variable, and the item's. -/
structure Two (w W : World) (B : ByteArray) : Prop where
  below : Below w.heap.size w W
  one : W.heap[w.heap.size]? = some Z3
  two : W.heap[w.heap.size + 1]? = some (.cells #[.string B, .string ⟨#[]⟩, .int .i64 0] 38)
theorem two_w (w : World) : Two w ((w.alloc Z3).alloc Z3).drew ⟨#[]⟩ := by
  refine ⟨(((Below.refl _ w).alloc (Nat.le_refl _) _).alloc (by simp) _).drew, ?_, ?_⟩
  · rw [heap_drew, Below.heap_alloc _ _ _ (by simp)]; exact alloc_at rfl
  · rw [heap_drew]; exact alloc_at (by simp)
theorem two_m (w : World) (B : ByteArray) : Two w ((w.alloc Z3).alloc (.cells #[.string B, .string ⟨#[]⟩, .int .i64 0] 38)).drew.drew B := by
  refine ⟨((((Below.refl _ w).alloc (Nat.le_refl _) _).alloc (by simp) _).drew).drew, ?_, ?_⟩
  · rw [heap_drew, heap_drew, Below.heap_alloc _ _ _ (by simp)]; exact alloc_at rfl
  · rw [heap_drew, heap_drew]; exact alloc_at (by simp)
theorem Two.boxes {w W w1 : World} {B : ByteArray} (h : Two w W B) (hb : Below W.heap.size W w1) : Box w1 w.heap.size ⟨#[]⟩ ⟨#[]⟩ 0 ∧ Box w1 (w.heap.size + 1) B ⟨#[]⟩ 0 :=
  ⟨Box.of (by rw [hb.block _ (block_lt h.one)]; exact h.one), Box.of (by rw [hb.block _ (block_lt h.two)]; exact h.two)⟩
theorem refun (L : List UInt8) (w : World) : Calls Tryd.prog 28 #[.string (bs L)] w fun e w' => e = .returned (unV (Cd.unnum L)) ∧ w' = w := by
  have := refunnum_any (bs L) w
  rw [bs_list] at this
  exact this
theorem put3b {w w1 : World} (h : Below w.heap.size w w1) (a b c : Value) : Below w.heap.size w (((w1.setCell ⟨w.heap.size, 0, none⟩ a).setCell ⟨w.heap.size, 1, none⟩ b).setCell ⟨w.heap.size, 2, none⟩ c) := put3 h a b c
set_option maxHeartbeats 3200000 in
set_option maxRecDepth 100000 in
theorem refGet_w (r : List UInt8) (w : World) (hS : r.length ≤ 10000000) :
    Calls Tryd.prog 29 #[.string (bs (119 :: r))] w fun e w' => e = .returned (rgV (riB spRr [] 1 r) (119 :: r)) ∧ Below w.heap.size w w' := by
  have hex0 := drop_bs (119 :: r) 1
  have hd : (119 :: r).drop 1 = r := rfl
  rw [hd] at hex0
  obtain ⟨T, hT, h0, hc⟩ : ∃ S, bs (119 :: r) = S ∧ ∃ h : 0 < S.size, S[0]'h = 119 := ⟨_, rfl, by rw [bs_size]; simp, rfl⟩
  have hsz : T.size = r.length + 1 := by rw [← hT, bs_size]; rfl
  obtain ⟨n1, n2⟩ := nonempty_of h0
  have i1 : (0 : Int) < (T.size : Int) := by omega
  have i2 : (1 : Int) ≤ (T.size : Int) := by omega
  have y1 : ((T[0]'h0).toNat : Int) = 119 := by rw [hc]; rfl
  obtain ⟨BB, hBB⟩ : ∃ BB, (⟨#[]⟩ : ByteArray) = BB := ⟨_, rfl⟩
  have HBB : Hid (bs [] = ⟨#[]⟩) := hideIt rfl
  clear hBB BB
  obtain ⟨T1, hT1⟩ : ∃ T1, bs r = T1 := ⟨_, rfl⟩
  rw [hT1] at hex0
  have hR : bs r = T1 := hT1
  have HTW := hideIt (two_w w)
  have HDR : Hid (∀ k, (119 :: r).drop (1 + k) = r.drop k) := hideIt (fun k => by rw [Nat.add_comm]; rfl)
  have HU := hideIt (fun w => refun r w)
  have huk := Lz.unnum_k r
  have HRL : Hid ((r).length ≤ 10000000) := hideIt (by exact hS)
  rw [hT] at hex0 ⊢
  rw [hR] at HU
  have hts : T1.size = r.length := by rw [← hR, bs_size]
  have hexd := fun k => drop_bs r k
  have hext := fun k => take_bs r k
  rw [hR] at hexd hext
  obtain ⟨n, j, z, hu⟩ : ∃ n j z, Cd.unnum r = (n, j, z) := ⟨_, _, _, rfl⟩
  have HRI : Hid (riB spRr [] 1 r = if z ≠ 0 then ⟨[], [], 0, z⟩ else riN spRr [] (1 + j) (r.drop j) n) := hideIt (by rw [riB, hu])
  rw [hu] at HU huk
  simp only [unV] at HU
  simp only at huk
  have rI : (T1.size : Int) ≤ 10000000 := by have := HRL.out; omega
  have HHR := hideIt hR
  clear hT hsz hc hu hR hT1
  by_cases hz : z = 0
  · subst hz
    rw [if_neg (by simp)] at HRI
    have c2 : (j : Int) ≤ (T1.size : Int) := by omega
    obtain ⟨m, hm⟩ : ∃ m, T1.size - j = m := ⟨_, rfl⟩
    have hml : (r.drop j).length = m := by simp; omega
    have mB : (m : Int) ≤ 10000000 := by omega
    have mW : IntKind.u64.wrap (m : Int) = (m : Int) := by rw [IntKind.wrap_u64]; omega
    obtain ⟨T2, hT2⟩ : ∃ T2, bs (r.drop j) = T2 := ⟨_, rfl⟩
    have hexj : T1.extract j T1.size = T2 := by rw [hexd j, hT2]
    have hT2s : T2.size = m := by rw [← hT2, bs_size, hml]
    by_cases hnm : n ≤ m
    · have q1 : ¬ (m : Int) < (n : Int) := by omega
      have q2 : decide ((m : Int) < (n : Int)) = false := decide_eq_false q1
      have q3 : ¬ m < n := by omega
      have q4 : (n : Int) ≤ (m : Int) := by omega
      have nB : (n : Int) ≤ 10000000 := by omega
      have hexn : T2.extract 0 n = bs ((r.drop j).take n) := by rw [← hT2, take_bs]
      have hexr : T2.extract n m = bs ((r.drop j).drop n) := by rw [← hT2s, ← hT2, drop_bs]
      have HSP := hideIt (fun w => refspread_any ((r.drop j).take n) 1048576 w (by simp; omega))
      have HRI4 : Hid (riB spRr [] 1 r = if (spRr ((r.drop j).take n)).1 ≠ 0 then ⟨[], [], 0, (spRr ((r.drop j).take n)).1⟩ else ⟨[], (spRr ((r.drop j).take n)).2, 1 + j + n, 0⟩) := hideIt (by rw [HRI.out, riN, if_neg (by omega)])
      have HSE : Hid (spRr ((r.drop j).take n) = Lz.spR ((r.drop j).take n) 1048576) := hideIt rfl
      obtain ⟨X, hX⟩ : ∃ X, (r.drop j).take n = X := ⟨_, rfl⟩
      rw [hX] at hexn HSP HRI4 HSE
      obtain ⟨z3, D, hsp⟩ : ∃ z D, Lz.spR X 1048576 = (z, D) := ⟨_, _, rfl⟩
      rw [HSE.out, hsp] at HRI4
      rw [hsp] at HSP
      simp only at HSP
      generalize bs X = T3 at hexn HSP
      obtain ⟨T4, hT4⟩ : ∃ T4, bs ((r.drop j).drop n) = T4 := ⟨_, rfl⟩
      have H4 : Hid (bs ((119 :: r).drop (1 + j + n)) = T4) := hideIt (by rw [Nat.add_assoc, HDR.out, ← List.drop_drop, hT4])
      rw [hT4] at hexr
      obtain ⟨DD, hDD⟩ : ∃ DD, bs D = DD := ⟨_, rfl⟩
      rw [hDD] at HSP
      have HBD := hideIt hDD
      clear hX hsp hDD HSE hm hml hnm huk hts hT2 hT4 hexd hext HRI
      by_cases hz3 : z3 = 0
      · subst hz3
        rw [if_neg (by simp)] at HRI4
        rw [HRI4.out, rgV]
        simp only [if_true]
        go_enter Tryd.func29, Tryd.ntmps29
        go_wp2
        go_region
        go_wp2_with (first | (go_at_call 28; refine (HU.out _).mono ?_; rintro e wx ⟨rfl, hwx⟩; obtain rfl := hwx.symm) | (go_at_call 44; refine (HSP.out _).mono ?_; rintro e w1 ⟨rfl, hb1⟩; obtain ⟨⟨k0, k1, k2, f0, f1, f2⟩, ⟨l0, l1, l2, g0, g1, g2⟩⟩ := HTW.out.boxes hb1))
        go_region
        go_wp2
        (try simp only [Exit.inBlock, Exit.then])
        refine bodyPost_ret (v := .tuple #[.agg #[.string ⟨#[]⟩, .string DD, .int .i64 0], .string T4, .int .i64 0]) ?_ rfl ⟨?_, ?_⟩
        · rw [results_c3 rfl]
          go_simp
        · rw [itA, H4.out, HBB.out, HBD.out]
        · exact Below.drew (put3 ((below2 HTW.out.below hb1).setCell (p := ⟨w.heap.size + 1, 1, none⟩) (by simp) _) _ _ _)
      · rw [if_pos hz3] at HRI4
        have v1 : ¬ (z3 : Int) = 0 := by omega
        have v2 : ((z3 : Int) != 0) = true := by simpa using v1
        have v3 : ((z3 : Int) == 0) = false := by simpa using v1
        rw [HRI4.out, rgV]
        simp only [hz3, if_false]
        clear hz3
        go_enter Tryd.func29, Tryd.ntmps29
        go_wp2
        go_region
        go_wp2_with (first | (go_at_call 28; refine (HU.out _).mono ?_; rintro e wx ⟨rfl, hwx⟩; obtain rfl := hwx.symm) | (go_at_call 44; refine (HSP.out _).mono ?_; rintro e w1 ⟨rfl, hb1⟩; obtain ⟨⟨k0, k1, k2, f0, f1, f2⟩, ⟨l0, l1, l2, g0, g1, g2⟩⟩ := HTW.out.boxes hb1))
        (try simp only [Exit.inBlock, Exit.then])
        refine bodyPost_ret (v := .tuple #[.agg #[.string ⟨#[]⟩, .string ⟨#[]⟩, .int .i64 0], .string ⟨#[]⟩, .int .i64 (z3 : Int)]) ?_ rfl ⟨rfl, ?_⟩
        · rw [results_c3 rfl]
          go_simp
        · exact put3 ((below2 HTW.out.below hb1).setCell (p := ⟨w.heap.size + 1, 1, none⟩) (by simp) _) _ _ _
    · have q1 : (m : Int) < (n : Int) := by omega
      have q2 : decide ((m : Int) < (n : Int)) = true := decide_eq_true q1
      have q3 : m < n := by omega
      have HRI4 : Hid (riB spRr [] 1 r = ⟨[], [], 0, 4⟩) := hideIt (by rw [HRI.out, riN, if_pos (by omega)])
      have HE : Hid (rgV ⟨[], [], 0, 4⟩ (119 :: r) = .tuple #[.agg #[.string ⟨#[]⟩, .string ⟨#[]⟩, .int .i64 0], .string ⟨#[]⟩, .int .i64 4]) := hideIt rfl
      rw [HRI4.out, HE.out]
      clear hm hml hnm huk hts hT2 hexd hext HRI
      obtain ⟨⟨k0, k1, k2, f0, f1, f2⟩, ⟨l0, l1, l2, g0, g1, g2⟩⟩ := HTW.out.boxes (Below.refl _ _)
      go_enter Tryd.func29, Tryd.ntmps29
      go_wp2
      go_region
      go_wp2_with (first | (go_at_call 28; refine (HU.out _).mono ?_; rintro e wx ⟨rfl, hwx⟩; obtain rfl := hwx.symm))
      (try simp only [Exit.inBlock, Exit.then])
      refine bodyPost_ret (v := .tuple #[.agg #[.string ⟨#[]⟩, .string ⟨#[]⟩, .int .i64 0], .string ⟨#[]⟩, .int .i64 4]) ?_ rfl ⟨rfl, ?_⟩
      · rw [results_c3 rfl]
        go_simp
      · exact HTW.out.below
  · rw [if_pos hz] at HRI
    have v1 : ¬ (z : Int) = 0 := by omega
    have v2 : ((z : Int) != 0) = true := by simpa using v1
    have v3 : ((z : Int) == 0) = false := by simpa using v1
    rw [HRI.out, rgV]
    simp only [hz, if_false]
    clear hz huk hts hexd hext
    obtain ⟨⟨k0, k1, k2, f0, f1, f2⟩, ⟨l0, l1, l2, g0, g1, g2⟩⟩ := HTW.out.boxes (Below.refl _ _)
    go_enter Tryd.func29, Tryd.ntmps29
    go_wp2
    go_region
    go_wp2_with (first | (go_at_call 28; refine (HU.out _).mono ?_; rintro e wx ⟨rfl, hwx⟩; obtain rfl := hwx.symm))
    (try simp only [Exit.inBlock, Exit.then])
    refine bodyPost_ret (v := .tuple #[.agg #[.string ⟨#[]⟩, .string ⟨#[]⟩, .int .i64 0], .string ⟨#[]⟩, .int .i64 (z : Int)]) ?_ rfl ⟨rfl, ?_⟩
    · rw [results_c3 rfl]
      go_simp
    · exact HTW.out.below
set_option maxHeartbeats 3200000 in
set_option maxRecDepth 100000 in
theorem refGet_m (r : List UInt8) (w : World) (hS : r.length ≤ 10000000) (h32 : 32 ≤ r.length) :
    Calls Tryd.prog 29 #[.string (bs (109 :: r))] w fun e w' => e = .returned (rgV (riB spRr (r.take 32) 33 (r.drop 32)) (109 :: r)) ∧ Below w.heap.size w w' := by
  have hex0 := drop_bs (109 :: r) 1
  have hd : (109 :: r).drop 1 = r := rfl
  rw [hd] at hex0
  obtain ⟨T, hT, h0, hc⟩ : ∃ S, bs (109 :: r) = S ∧ ∃ h : 0 < S.size, S[0]'h = 109 := ⟨_, rfl, by rw [bs_size]; simp, rfl⟩
  have hsz : T.size = r.length + 1 := by rw [← hT, bs_size]; rfl
  obtain ⟨n1, n2⟩ := nonempty_of h0
  have i1 : (0 : Int) < (T.size : Int) := by omega
  have i2 : (1 : Int) ≤ (T.size : Int) := by omega
  have y1 : ((T[0]'h0).toNat : Int) = 109 := by rw [hc]; rfl
  obtain ⟨T0, hT0⟩ : ∃ T0, bs r = T0 := ⟨_, rfl⟩
  rw [hT0] at hex0
  have t0 : T0.size = r.length := by rw [← hT0, bs_size]
  have j1 : ¬ (T0.size : Int) < 32 := by omega
  have j2 : (32 : Int) ≤ (T0.size : Int) := by omega
  have j3 : (T0.size : Int) ≤ 10000000 := by omega
  have hexa := take_bs r 32
  have hexb := drop_bs r 32
  obtain ⟨BB, hBB⟩ : ∃ BB, bs (r.take 32) = BB := ⟨_, rfl⟩
  have HBB := hideIt hBB
  obtain ⟨T1, hR⟩ : ∃ T1, bs (r.drop 32) = T1 := ⟨_, rfl⟩
  rw [hT0, hBB] at hexa
  rw [hT0, hR] at hexb
  have HTW := hideIt (two_m w BB)
  have HDR : Hid (∀ k, (109 :: r).drop (33 + k) = (r.drop 32).drop k) := hideIt (fun k => by rw [List.drop_drop, show 33 + k = (32 + k) + 1 by omega]; rfl)
  clear hT0 t0 hBB
  have HU := hideIt (fun w => refun (r.drop 32) w)
  have huk := Lz.unnum_k (r.drop 32)
  have HRL : Hid (((r.drop 32)).length ≤ 10000000) := hideIt (by simp; omega)
  rw [hT] at hex0 ⊢
  generalize hRR : (r.drop 32) = R at hR HU huk HRL HDR ⊢
  rw [hR] at HU
  have hts : T1.size = R.length := by rw [← hR, bs_size]
  have hexd := fun k => drop_bs R k
  have hext := fun k => take_bs R k
  rw [hR] at hexd hext
  obtain ⟨n, j, z, hu⟩ : ∃ n j z, Cd.unnum R = (n, j, z) := ⟨_, _, _, rfl⟩
  have HRI : Hid (riB spRr (r.take 32) 33 R = if z ≠ 0 then ⟨[], [], 0, z⟩ else riN spRr (r.take 32) (33 + j) (R.drop j) n) := hideIt (by rw [riB, hu])
  rw [hu] at HU huk
  simp only [unV] at HU
  simp only at huk
  have rI : (T1.size : Int) ≤ 10000000 := by have := HRL.out; omega
  have HHR := hideIt hR
  clear hT hsz hc hu hR hRR
  by_cases hz : z = 0
  · subst hz
    rw [if_neg (by simp)] at HRI
    have c2 : (j : Int) ≤ (T1.size : Int) := by omega
    obtain ⟨m, hm⟩ : ∃ m, T1.size - j = m := ⟨_, rfl⟩
    have hml : (R.drop j).length = m := by simp; omega
    have mB : (m : Int) ≤ 10000000 := by omega
    have mW : IntKind.u64.wrap (m : Int) = (m : Int) := by rw [IntKind.wrap_u64]; omega
    obtain ⟨T2, hT2⟩ : ∃ T2, bs (R.drop j) = T2 := ⟨_, rfl⟩
    have hexj : T1.extract j T1.size = T2 := by rw [hexd j, hT2]
    have hT2s : T2.size = m := by rw [← hT2, bs_size, hml]
    by_cases hnm : n ≤ m
    · have q1 : ¬ (m : Int) < (n : Int) := by omega
      have q2 : decide ((m : Int) < (n : Int)) = false := decide_eq_false q1
      have q3 : ¬ m < n := by omega
      have q4 : (n : Int) ≤ (m : Int) := by omega
      have nB : (n : Int) ≤ 10000000 := by omega
      have hexn : T2.extract 0 n = bs ((R.drop j).take n) := by rw [← hT2, take_bs]
      have hexr : T2.extract n m = bs ((R.drop j).drop n) := by rw [← hT2s, ← hT2, drop_bs]
      have HSP := hideIt (fun w => refspread_any ((R.drop j).take n) 1048576 w (by simp; omega))
      have HRI4 : Hid (riB spRr (r.take 32) 33 R = if (spRr ((R.drop j).take n)).1 ≠ 0 then ⟨[], [], 0, (spRr ((R.drop j).take n)).1⟩ else ⟨(r.take 32), (spRr ((R.drop j).take n)).2, 33 + j + n, 0⟩) := hideIt (by rw [HRI.out, riN, if_neg (by omega)])
      have HSE : Hid (spRr ((R.drop j).take n) = Lz.spR ((R.drop j).take n) 1048576) := hideIt rfl
      obtain ⟨X, hX⟩ : ∃ X, (R.drop j).take n = X := ⟨_, rfl⟩
      rw [hX] at hexn HSP HRI4 HSE
      obtain ⟨z3, D, hsp⟩ : ∃ z D, Lz.spR X 1048576 = (z, D) := ⟨_, _, rfl⟩
      rw [HSE.out, hsp] at HRI4
      rw [hsp] at HSP
      simp only at HSP
      generalize bs X = T3 at hexn HSP
      obtain ⟨T4, hT4⟩ : ∃ T4, bs ((R.drop j).drop n) = T4 := ⟨_, rfl⟩
      have H4 : Hid (bs ((109 :: r).drop (33 + j + n)) = T4) := hideIt (by rw [Nat.add_assoc, HDR.out, ← List.drop_drop, hT4])
      rw [hT4] at hexr
      obtain ⟨DD, hDD⟩ : ∃ DD, bs D = DD := ⟨_, rfl⟩
      rw [hDD] at HSP
      have HBD := hideIt hDD
      clear hX hsp hDD HSE hm hml hnm huk hts hT2 hT4 hexd hext HRI
      by_cases hz3 : z3 = 0
      · subst hz3
        rw [if_neg (by simp)] at HRI4
        rw [HRI4.out, rgV]
        simp only [if_true]
        go_enter Tryd.func29, Tryd.ntmps29
        go_wp2
        go_region
        go_wp2
        go_region
        go_wp2_with (first | (go_at_call 28; refine (HU.out _).mono ?_; rintro e wx ⟨rfl, hwx⟩; obtain rfl := hwx.symm) | (go_at_call 44; refine (HSP.out _).mono ?_; rintro e w1 ⟨rfl, hb1⟩; obtain ⟨⟨k0, k1, k2, f0, f1, f2⟩, ⟨l0, l1, l2, g0, g1, g2⟩⟩ := HTW.out.boxes hb1))
        go_region
        go_wp2
        (try simp only [Exit.inBlock, Exit.then])
        refine bodyPost_ret (v := .tuple #[.agg #[.string BB, .string DD, .int .i64 0], .string T4, .int .i64 0]) ?_ rfl ⟨?_, ?_⟩
        · rw [results_c3 rfl]
          go_simp
        · rw [itA, H4.out, HBB.out, HBD.out]
        · exact Below.drew (put3 ((below2 HTW.out.below hb1).setCell (p := ⟨w.heap.size + 1, 1, none⟩) (by simp) _) _ _ _)
      · rw [if_pos hz3] at HRI4
        have v1 : ¬ (z3 : Int) = 0 := by omega
        have v2 : ((z3 : Int) != 0) = true := by simpa using v1
        have v3 : ((z3 : Int) == 0) = false := by simpa using v1
        rw [HRI4.out, rgV]
        simp only [hz3, if_false]
        clear hz3
        go_enter Tryd.func29, Tryd.ntmps29
        go_wp2
        go_region
        go_wp2
        go_region
        go_wp2_with (first | (go_at_call 28; refine (HU.out _).mono ?_; rintro e wx ⟨rfl, hwx⟩; obtain rfl := hwx.symm) | (go_at_call 44; refine (HSP.out _).mono ?_; rintro e w1 ⟨rfl, hb1⟩; obtain ⟨⟨k0, k1, k2, f0, f1, f2⟩, ⟨l0, l1, l2, g0, g1, g2⟩⟩ := HTW.out.boxes hb1))
        (try simp only [Exit.inBlock, Exit.then])
        refine bodyPost_ret (v := .tuple #[.agg #[.string ⟨#[]⟩, .string ⟨#[]⟩, .int .i64 0], .string ⟨#[]⟩, .int .i64 (z3 : Int)]) ?_ rfl ⟨rfl, ?_⟩
        · rw [results_c3 rfl]
          go_simp
        · exact put3 ((below2 HTW.out.below hb1).setCell (p := ⟨w.heap.size + 1, 1, none⟩) (by simp) _) _ _ _
    · have q1 : (m : Int) < (n : Int) := by omega
      have q2 : decide ((m : Int) < (n : Int)) = true := decide_eq_true q1
      have q3 : m < n := by omega
      have HRI4 : Hid (riB spRr (r.take 32) 33 R = ⟨[], [], 0, 4⟩) := hideIt (by rw [HRI.out, riN, if_pos (by omega)])
      have HE : Hid (rgV ⟨[], [], 0, 4⟩ (109 :: r) = .tuple #[.agg #[.string ⟨#[]⟩, .string ⟨#[]⟩, .int .i64 0], .string ⟨#[]⟩, .int .i64 4]) := hideIt rfl
      rw [HRI4.out, HE.out]
      clear hm hml hnm huk hts hT2 hexd hext HRI
      obtain ⟨⟨k0, k1, k2, f0, f1, f2⟩, ⟨l0, l1, l2, g0, g1, g2⟩⟩ := HTW.out.boxes (Below.refl _ _)
      go_enter Tryd.func29, Tryd.ntmps29
      go_wp2
      go_region
      go_wp2
      go_region
      go_wp2_with (first | (go_at_call 28; refine (HU.out _).mono ?_; rintro e wx ⟨rfl, hwx⟩; obtain rfl := hwx.symm))
      (try simp only [Exit.inBlock, Exit.then])
      refine bodyPost_ret (v := .tuple #[.agg #[.string ⟨#[]⟩, .string ⟨#[]⟩, .int .i64 0], .string ⟨#[]⟩, .int .i64 4]) ?_ rfl ⟨rfl, ?_⟩
      · rw [results_c3 rfl]
        go_simp
      · exact HTW.out.below
  · rw [if_pos hz] at HRI
    have v1 : ¬ (z : Int) = 0 := by omega
    have v2 : ((z : Int) != 0) = true := by simpa using v1
    have v3 : ((z : Int) == 0) = false := by simpa using v1
    rw [HRI.out, rgV]
    simp only [hz, if_false]
    clear hz huk hts hexd hext
    obtain ⟨⟨k0, k1, k2, f0, f1, f2⟩, ⟨l0, l1, l2, g0, g1, g2⟩⟩ := HTW.out.boxes (Below.refl _ _)
    go_enter Tryd.func29, Tryd.ntmps29
    go_wp2
    go_region
    go_wp2
    go_region
    go_wp2_with (first | (go_at_call 28; refine (HU.out _).mono ?_; rintro e wx ⟨rfl, hwx⟩; obtain rfl := hwx.symm))
    (try simp only [Exit.inBlock, Exit.then])
    refine bodyPost_ret (v := .tuple #[.agg #[.string ⟨#[]⟩, .string ⟨#[]⟩, .int .i64 0], .string ⟨#[]⟩, .int .i64 (z : Int)]) ?_ rfl ⟨rfl, ?_⟩
    · rw [results_c3 rfl]
      go_simp
    · exact HTW.out.below
end Go.Proofs.YtjiigdjopcegeaaDoor.Pk
namespace Go.Proofs.YtjiigdjopcegeaaDoor.Pk
open Cb Ld Go.RowKit Go.Shelf
theorem byte_ne {c d : UInt8} {u k : Nat} (hu : c.toNat = u) (hd : d.toNat = k) (h : c ≠ d) : ¬ (u : Int) = (k : Int) := by
  intro e
  apply h
  exact UInt8.toNat_inj.1 (by omega)
set_option maxHeartbeats 1600000 in
set_option maxRecDepth 100000 in
theorem refGet_any (L : List UInt8) (w : World) (hL : L.length ≤ 10000000) :
    Calls Tryd.prog 29 #[.string (bs L)] w fun e w' => e = .returned (rgV (ri spRr L) L) ∧ Below w.heap.size w w' := by
  have HE : Hid (∀ z L, z ≠ 0 → rgV ⟨[], [], 0, z⟩ L = .tuple #[.agg #[.string ⟨#[]⟩, .string ⟨#[]⟩, .int .i64 0], .string ⟨#[]⟩, .int .i64 (z : Int)]) := hideIt (fun z L h => by rw [rgV]; simp only [h, if_false]; rfl)
  have HB0 : Hid (Below w.heap.size w (w.alloc Z3)) := hideIt ((Below.refl _ w).alloc (Nat.le_refl _) _)
  cases L with
  | nil =>
    have hr : ri spRr [] = ⟨[], [], 0, 4⟩ := rfl
    have be : bs [] = (⟨#[]⟩ : ByteArray) := rfl
    rw [hr, HE.out 4 [] (by omega), be]
    go_enter Tryd.func29, Tryd.ntmps29
    go_wp2
    (try simp only [Exit.inBlock, Exit.then])
    refine bodyPost_ret (v := .tuple #[.agg #[.string ⟨#[]⟩, .string ⟨#[]⟩, .int .i64 0], .string ⟨#[]⟩, .int .i64 4]) ?_ rfl ⟨rfl, ?_⟩
    · rw [results_c3 rfl]
      go_simp
    · exact HB0.out
  | cons c r =>
    have hl : r.length ≤ 10000000 := by simp at hL; omega
    by_cases c1 : c = 119
    · subst c1
      exact refGet_w r w hl
    · by_cases c2 : c = 109
      · by_cases h32 : r.length < 32
        · have hr : ri spRr (c :: r) = ⟨[], [], 0, 4⟩ := by
            have : rb (c :: r) = ([], 0, 4) := by rw [rb, if_neg c1, if_pos c2, if_pos h32]
            rw [ri, this]; rfl
          have hex0 := drop_bs (c :: r) 1
          have hd : (c :: r).drop 1 = r := rfl
          rw [hr, HE.out 4 _ (by omega)]
          rw [hd] at hex0
          obtain ⟨T, hT, h0, hc⟩ : ∃ S, bs (c :: r) = S ∧ ∃ h : 0 < S.size, S[0]'h = c := ⟨_, rfl, by rw [bs_size]; simp, rfl⟩
          obtain ⟨n1, n2⟩ := nonempty_of h0
          have hsz : T.size = r.length + 1 := by rw [← hT, bs_size]; rfl
          have i1 : (0 : Int) < (T.size : Int) := by omega
          have i2 : (1 : Int) ≤ (T.size : Int) := by omega
          have y1 : ((T[0]'h0).toNat : Int) = 109 := by rw [hc, c2]; rfl
          have hts : (bs r).size = r.length := bs_size r
          rw [hT] at hex0 ⊢
          generalize bs r = T1 at hex0 hts
          have j1 : (T1.size : Int) < 32 := by omega
          clear hT hsz hc hts hr hd c1 c2
          have HTW := hideIt (two_w w)
          obtain ⟨⟨k0, k1, k2, f0, f1, f2⟩, ⟨l0, l1, l2, g0, g1, g2⟩⟩ := HTW.out.boxes (Below.refl _ _)
          go_enter Tryd.func29, Tryd.ntmps29
          go_wp2
          go_region
          go_wp2
          (try simp only [Exit.inBlock, Exit.then])
          refine bodyPost_ret (v := .tuple #[.agg #[.string ⟨#[]⟩, .string ⟨#[]⟩, .int .i64 0], .string ⟨#[]⟩, .int .i64 4]) ?_ rfl ⟨rfl, ?_⟩
          · rw [results_c3 rfl]
            go_simp
          · exact HTW.out.below
        · subst c2
          have hr : ri spRr (109 :: r) = riB spRr (r.take 32) 33 (r.drop 32) := by
            have : rb (109 :: r) = (r.take 32, 33, 0) := by rw [rb, if_neg c1, if_pos rfl, if_neg h32]
            rw [ri, this]; rfl
          rw [hr]
          exact refGet_m r w hl (by omega)
      · have hr : ri spRr (c :: r) = ⟨[], [], 0, 6⟩ := by
          have : rb (c :: r) = ([], 0, 6) := by rw [rb, if_neg c1, if_neg c2]
          rw [ri, this]; rfl
        have hex0 := drop_bs (c :: r) 1
        have hd : (c :: r).drop 1 = r := rfl
        rw [hr, HE.out 6 _ (by omega)]
        rw [hd] at hex0
        obtain ⟨T, hT, h0, hc⟩ : ∃ S, bs (c :: r) = S ∧ ∃ h : 0 < S.size, S[0]'h = c := ⟨_, rfl, by rw [bs_size]; simp, rfl⟩
        obtain ⟨n1, n2⟩ := nonempty_of h0
        have hsz : T.size = r.length + 1 := by rw [← hT, bs_size]; rfl
        have i1 : (0 : Int) < (T.size : Int) := by omega
        have i2 : (1 : Int) ≤ (T.size : Int) := by omega
        obtain ⟨u, hu⟩ : ∃ u, c.toNat = u := ⟨_, rfl⟩
        have y1 : ((T[0]'h0).toNat : Int) = (u : Int) := by rw [hc, hu]
        have u1 : ¬ (u : Int) = 119 := byte_ne (d := 119) hu rfl c1
        have u2 : ((u : Int) == 119) = false := beq_eq_false_iff_ne.2 u1
        have v1 : ¬ (u : Int) = 109 := byte_ne (d := 109) hu rfl c2
        have v2 : ((u : Int) == 109) = false := beq_eq_false_iff_ne.2 v1
        rw [hT] at hex0 ⊢
        generalize bs r = T1 at hex0
        clear hT hsz hc hr hd c1 c2 hu
        have HTW := hideIt (two_w w)
        obtain ⟨⟨k0, k1, k2, f0, f1, f2⟩, ⟨l0, l1, l2, g0, g1, g2⟩⟩ := HTW.out.boxes (Below.refl _ _)
        go_enter Tryd.func29, Tryd.ntmps29
        go_wp2
        go_region
        go_wp2
        (try simp only [Exit.inBlock, Exit.then])
        refine bodyPost_ret (v := .tuple #[.agg #[.string ⟨#[]⟩, .string ⟨#[]⟩, .int .i64 0], .string ⟨#[]⟩, .int .i64 6]) ?_ rfl ⟨rfl, ?_⟩
        · rw [results_c3 rfl]
          go_simp
        · exact HTW.out.below
theorem title_any (w : World) : Calls Tryd.prog 18 #[] w fun e w' => e = .returned (.string ⟨#[112, 111, 108, 108, 97, 114, 100, 32, 112, 97, 99, 107, 10]⟩) ∧ w' = w := by
  go_enter Tryd.func18, Tryd.ntmps18
  go_wp2
  go_ret
  exact ⟨rfl, rfl⟩
theorem refsumOf_any (M : List UInt8) (w : World) (h : M.length < 100000000) : Calls Tryd.prog 21 #[.string (bs M)] w fun e w' => e = .returned (.string (bs (shaL M))) ∧ Below w.heap.size w w' := by
  have := Sa.ref_any (bs M) w (by rw [bs_size]; exact h)
  rw [bs_list, sha_bs] at this
  exact this
set_option maxHeartbeats 1600000 in
set_option maxRecDepth 100000 in
theorem refsum_any (p : List UInt8) (w : World) (hp : p.length ≤ 10000000) :
    Calls Tryd.prog 27 #[.string (bs p)] w fun e w' => e = .returned (.tuple #[.string (bs (sumV p)), .int .i64 (sumE p : Int)]) ∧ Below w.heap.size w w' := by
  have HE : Hid (sumE p = if 4194304 < p.length then 3 else if p.length < 32 then 4 else if shaL (p.take (p.length - 32)) = p.drop (p.length - 32) then 0 else 80) := hideIt rfl
  have HV : Hid (sumV p = if sumE p = 0 then p.drop (p.length - 32) else []) := hideIt rfl
  have hs : (bs p).size = p.length := bs_size p
  have HSO := hideIt (fun w => refsumOf_any (p.take (p.length - 32)) w (by simp; omega))
  have hex := drop_bs p (p.length - 32)
  have hext := take_bs p (p.length - 32)
  obtain ⟨n, hn⟩ : ∃ n, p.length = n := ⟨_, rfl⟩
  have be : bs [] = (⟨#[]⟩ : ByteArray) := rfl
  by_cases h1 : 4194304 < n
  · have HE2 : Hid (sumE p = 3) := hideIt (by rw [HE.out, if_pos (by omega)])
    have HV2 : Hid (sumV p = []) := hideIt (by rw [HV.out, HE2.out]; rfl)
    rw [HE2.out, HV2.out, be]
    generalize bs p = P at hs hex hext ⊢
    have g1 : (4194304 : Int) < (P.size : Int) := by omega
    have g2 : (P.size : Int) ≤ 10000000 := by omega
    clear HE HV hex hext hs hn HSO
    go_enter Tryd.func27, Tryd.ntmps27
    go_wp2
    go_ret2
    exact ⟨rfl, Below.refl _ _⟩
  · by_cases h2 : n < 32
    · have HE2 : Hid (sumE p = 4) := hideIt (by rw [HE.out, if_neg (by omega), if_pos (by omega)])
      have HV2 : Hid (sumV p = []) := hideIt (by rw [HV.out, HE2.out]; rfl)
      rw [HE2.out, HV2.out, be]
      generalize bs p = P at hs hex hext ⊢
      have g1 : ¬ (4194304 : Int) < (P.size : Int) := by omega
      have g2 : (P.size : Int) < 32 := by omega
      clear HE HV hex hext hs hn HSO
      go_enter Tryd.func27, Tryd.ntmps27
      go_wp2
      go_ret2
      exact ⟨rfl, Below.refl _ _⟩
    · have hcmp := bs_eq (shaL (p.take (p.length - 32))) (p.drop (p.length - 32))
      obtain ⟨k, hk⟩ : ∃ k, n - 32 = k := ⟨_, rfl⟩
      have hpk : p.length - 32 = k := by omega
      rw [hpk] at HE HV HSO hcmp hex hext
      generalize bs p = P at hs hex hext ⊢
      have g1 : ¬ (4194304 : Int) < (P.size : Int) := by omega
      have g2 : ¬ (P.size : Int) < 32 := by omega
      have g3 : (k : Int) ≤ (P.size : Int) := by omega
      have g6 : (P.size : Int) - 32 = (k : Int) := by omega
      have g7 : IntKind.i64.wrap (k : Int) = (k : Int) := by rw [IntKind.wrap_i64]; omega
      have HE1 : Hid (sumE p = if shaL (p.take k) = p.drop k then 0 else 80) := hideIt (by rw [HE.out, if_neg (by omega), if_neg (by omega)])
      have g5 : (P.size : Int) ≤ 10000000 := by omega
      by_cases h3 : shaL (p.take k) = p.drop k
      · rw [decide_eq_true h3] at hcmp
        have HE2 : Hid (sumE p = 0) := hideIt (by rw [HE1.out, if_pos h3])
        have HV2 : Hid (bs (sumV p) = bs (p.drop k)) := hideIt (by rw [HV.out, HE2.out, if_pos rfl])
        rw [HE2.out, HV2.out]
        generalize bs (p.drop k) = D at hcmp hex ⊢
        generalize bs (shaL (p.take k)) = X at hcmp HSO
        generalize bs (p.take k) = Q at HSO hext
        clear HE HV HE1 hs hn h3 hpk hk h1 h2 HV2 HE2
        go_enter Tryd.func27, Tryd.ntmps27
        go_wp2
        go_region_law (go_simp; go_at_call 21; refine (HSO.out _).mono ?_; rintro e w1 ⟨rfl, hb1⟩; dsimp only)
        go_wp2
        go_ret2
        exact ⟨rfl, below2 (Below.refl w.heap.size w).drew hb1⟩
      · rw [decide_eq_false h3] at hcmp
        have HE2 : Hid (sumE p = 80) := hideIt (by rw [HE1.out, if_neg h3])
        have HV2 : Hid (sumV p = []) := hideIt (by rw [HV.out, HE2.out]; rfl)
        rw [HE2.out, HV2.out, be]
        generalize bs (p.drop k) = D at hcmp hex
        generalize bs (shaL (p.take k)) = X at hcmp HSO
        generalize bs (p.take k) = Q at HSO hext
        clear HE HV HE1 hs hn h3 hpk hk h1 h2 HV2 HE2
        go_enter Tryd.func27, Tryd.ntmps27
        go_wp2
        go_region_law (go_simp; go_at_call 21; refine (HSO.out _).mono ?_; rintro e w1 ⟨rfl, hb1⟩; dsimp only)
        go_wp2
        go_ret2
        exact ⟨rfl, below2 (Below.refl w.heap.size w).drew hb1⟩
end Go.Proofs.YtjiigdjopcegeaaDoor.Pk
namespace Go.Proofs.YtjiigdjopcegeaaDoor.Pk
open Cb Ld Go.RowKit Go.Shelf
theorem infoJ : (Tryd.prog.info? 38).map (fun i => (i.zero, i.size, i.bytes)) = some (some (.agg #[.string ⟨#[]⟩, .string ⟨#[]⟩, .int .i64 0]), 3, 40) := by kernel_rfl
theorem below_drewN (w : World) (n : Nat) : Below w.heap.size w (w.drewN n) := ⟨rfl, rfl, rfl, Nat.le_refl _, fun _ _ => rfl⟩
theorem lit_eq (a b : List UInt8) : ((bs a).toList == b) = decide (a = b) := by
  rw [ByteArray.toList_eq, bs_list]
  by_cases h : a = b
  · subst h; simp
  · rw [decide_eq_false h, beq_eq_false_iff_ne]; exact h
theorem fin_len {size : Nat} {T L : List UInt8} (h : T.length ≤ size) : (Lz.fin T L).2.length ≤ size := by
  unfold Lz.fin
  split
  · exact h
  · simp
theorem spF_len (size : Nat) : ∀ (f : Nat) (T L : List UInt8), T.length ≤ size → (Lz.spF Lz.aga size f T L).2.length ≤ size
  | 0, T, L, _ => by simp [Lz.spF]
  | f + 1, T, L, hT => by
    rw [Lz.spF]
    split
    · rename_i hlt
      split
      · simp
      · rename_i h1
        have ha := Lz.alo_len (left := size - T.length) (T := T) (L := L) (by simpa using h1)
        split
        · exact fin_len (by omega)
        · split
          · simp
          · rename_i h3
            have hg := Lz.aga_len (by simpa using h3)
            exact spF_len size f _ _ (by omega)
    · exact fin_len hT
theorem spRr_len (p : List UInt8) (h : (spRr p).1 = 0) : (spRr p).2.length ≤ 1048576 := by
  have hs := Lz.sp_same p 1048576
  have h0 := hs.1.2 h
  have e := hs.2 h0
  unfold spRr
  rw [← e]
  rw [Lz.spP, Lz.spA]
  split
  · simp
  · split
    · simp
    · rename_i h1 h2
      have := spF_len (Lz.nm 1048576 p).1 ((Lz.nm 1048576 p).1 + 1) [] (Lz.nm 1048576 p).2.1 (by simp)
      have hm := (Lz.nm_ok (most := 1048576) (L := p) (n := (Lz.nm 1048576 p).1) (R := (Lz.nm 1048576 p).2.1) (Prod.ext rfl (Prod.ext rfl (by simpa using h1)))).1
      omega
theorem ri_d {L : List UInt8} : (ri spRr L).d.length ≤ 1048576 := by
  unfold ri
  split
  · simp
  · unfold riB
    split
    · simp
    · unfold riN
      split
      · simp
      · split
        · simp
        · rename_i h
          exact spRr_len _ (by simpa using h)
theorem own_empty {w w1 : World} {T : TypeId} (hb : Below w.heap.size w w1) : (w1.alloc (.cells #[] T)).ownsRow w.heap.size T 3 (.slice (some ⟨w1.heap.size, 0, none⟩) 0 0) 0 (itsV []) :=
  ⟨rfl, .inr ⟨w1.heap.size, 0, #[], rfl, hb.size, alloc_at rfl, by simp, by simp, rfl, rfl⟩⟩
set_option maxHeartbeats 1200000 in
set_option maxRecDepth 100000 in
theorem refscan_any (p : List UInt8) (w : World) (hp : p.length ≤ 10000000) :
    Calls Tryd.prog 11 #[.string (bs p)] w fun e w' => ScTo 38 w (scn spRr p) e w' := by
  obtain ⟨i0, hi0, hz0, hz1, hz2⟩ := info_parts infoJ
  have HS := hideIt (refsum_any p w hp)
  have HTI := hideIt (title_any)
  have HE : Hid (sumE p = if 4194304 < p.length then 3 else if p.length < 32 then 4 else if shaL (p.take (p.length - 32)) = p.drop (p.length - 32) then 0 else 80) := hideIt rfl
  have HX : Hid (scn spRr p = if sumE p ≠ 0 then (sumE p, []) else scB spRr (p.take (p.length - 32))) := hideIt rfl
  obtain ⟨R, hR⟩ : ∃ R, scn spRr p = R := ⟨_, rfl⟩
  rw [hR] at HX ⊢
  have HT : Hid (∀ e w', ScTo 38 w R e w' ↔ ∃ v, e = .returned (.tuple #[v, .int .i64 (R.1 : Int)]) ∧ w'.ownsRow w.heap.size 38 3 v R.2.length (itsV R.2) ∧ Below w.heap.size w w') := hideIt (fun _ _ => Iff.rfl)
  obtain ⟨z, hz⟩ : ∃ z, sumE p = z := ⟨_, rfl⟩
  rw [hz] at HX HS
  by_cases h0 : z = 0
  · have hl : 32 ≤ p.length := by
      rcases Nat.lt_or_ge p.length 32 with h | h
      · rw [hz, if_neg (by omega), if_pos h] at HE
        have := HE.out
        omega
      · exact h
    subst h0
    rw [if_neg (by simp)] at HX
    have hext := take_bs p (p.length - 32)
    have hps : (bs p).size = p.length := bs_size p
    obtain ⟨S, hS⟩ : ∃ S, p.take (p.length - 32) = S := ⟨_, rfl⟩
    have hSL : S.length = p.length - 32 := by rw [← hS, List.length_take]; omega
    obtain ⟨N, hN⟩ : ∃ N, p.length - 32 = N := ⟨_, rfl⟩
    rw [hS] at HX hext
    rw [hN] at hext hSL
    generalize bs (sumV p) = V at HS
    generalize bs p = P at hext hps HS ⊢
    have p1 : (P.size : Int) - 32 = (N : Int) := by omega
    have p2 : (N : Int) ≤ (P.size : Int) := by omega
    have p3 : (P.size : Int) ≤ 10000000 := by omega
    have p4 : IntKind.i64.wrap (N : Int) = (N : Int) := by rw [IntKind.wrap_i64]; omega
    have hcmp : ((bs (S.take 13)).toList == [112, 111, 108, 108, 97, 114, 100, 32, 112, 97, 99, 107, 10]) = decide (S.take 13 = titleL) := lit_eq _ _
    have hexa := take_bs S 13
    have hexb := drop_bs S 13
    have HU := hideIt (fun w => refun (S.drop 13) w)
    have huk := Lz.unnum_k (S.drop 13)
    have HSB : Hid (scB spRr S = if S.take 13 ≠ titleL then (6, []) else if (Cd.unnum (S.drop 13)).2.2 ≠ 0 then ((Cd.unnum (S.drop 13)).2.2, []) else if 2048 < (Cd.unnum (S.drop 13)).1 then (3, []) else ris spRr S (Cd.unnum (S.drop 13)).1 16777216 (13 + (Cd.unnum (S.drop 13)).2.1)) := hideIt rfl
    have HG := hideIt (fun a w => refGet_any (S.drop a) w (by simp; omega))
    have hexd := fun a => drop_bs S a
    have hSs : (bs S).size = N := by rw [bs_size, hSL]
    obtain ⟨u, j, y, hu⟩ : ∃ n j z, Cd.unnum (S.drop 13) = (n, j, z) := ⟨_, _, _, rfl⟩
    rw [hu] at HU huk HSB
    simp only [unV] at HU
    simp only [List.length_drop, hSL] at huk
    simp only at HSB
    have HNN := hideIt hSL
    clear hR hz hu hS hSL hl
    by_cases h13 : N < 13
    · have ht : S.take 13 ≠ titleL := by
        intro e
        have := congrArg List.length e
        rw [List.length_take, HNN.out] at this
        have h2 : titleL.length = 13 := rfl
        omega
      have q1 : (N : Int) < 13 := by omega
      have q2 : decide ((N : Int) < 13) = true := decide_eq_true q1
      have HR2 : Hid (R = (6, [])) := hideIt (by rw [HX.out, HSB.out, if_pos ht])
      generalize bs S = T at hext hexa hexb hexd hSs
      clear HSB HX ht hexa hexb hexd hps hcmp huk hN
      go_enter Tryd.func11, Tryd.ntmps11
      go_wp2_with (first | (go_at_call 27; refine HS.out.mono ?_; rintro e w1 ⟨rfl, hb1⟩))
      go_quiet (first | (go_at_call 18; refine Calls.quiet_of_same (HTI.out _)))
      go_wp2
      go_ret2
      exact ScTo.err HR2.out (below2 hb1 (below_drewN _ _))
    · have q1 : ¬ (N : Int) < 13 := by omega
      have q2 : decide ((N : Int) < 13) = false := decide_eq_false q1
      have q3 : (13 : Int) ≤ (N : Int) := by omega
      generalize bs (S.take 13) = TA at hexa hcmp
      generalize bs (S.drop 13) = TB at hexb HU
      generalize bs S = T at hext hexa hexb hexd hSs
      rw [hSs] at hexb
      have hexd2 : ∀ a, T.extract a N = bs (S.drop a) := fun a => by rw [← hexd a, hSs]
      have HXD := hideIt hexd2
      have q4 : (13 : Int) ≤ (T.size : Int) := by omega
      clear hexd hexd2 hN
      by_cases ht : S.take 13 = titleL
      · rw [decide_eq_true ht] at hcmp
        rw [if_neg (by simpa using ht)] at HSB
        by_cases hy : y = 0
        · subst hy
          rw [if_neg (by simp)] at HSB
          by_cases hu2 : 2048 < u
          · have v1 : (2048 : Int) < (u : Int) := by omega
            have HR2 : Hid (R = (3, [])) := hideIt (by rw [HX.out, HSB.out, if_pos hu2])
            clear HSB HX ht hps huk
            go_enter Tryd.func11, Tryd.ntmps11
            go_wp2_with (first | (go_at_call 27; refine HS.out.mono ?_; rintro e w1 ⟨rfl, hb1⟩))
            go_quiet (first | (go_at_call 18; refine Calls.quiet_of_same (HTI.out _)))
            go_wp2_with (first | (go_at_call 18; refine (HTI.out _).mono ?_; rintro e wx ⟨rfl, hwx⟩; obtain rfl := hwx.symm) | (go_at_call 28; refine (HU.out _).mono ?_; rintro e wx ⟨rfl, hwx⟩; obtain rfl := hwx.symm))
            go_ret2
            exact ScTo.err HR2.out (below2 hb1 (below_drewN _ _))
          · have v1 : ¬ (2048 : Int) < (u : Int) := by omega
            have v2 : (u : Int) ≤ 2048 := by omega
            obtain ⟨a0, ha0⟩ : ∃ a, 13 + j = a := ⟨_, rfl⟩
            have a1 : (13 : Int) + (j : Int) = (a0 : Int) := by omega
            have a2 : (a0 : Int) ≤ (N : Int) := by omega
            have a3 : a0 ≤ N := by omega
            rw [if_neg hu2, ha0] at HSB
            have HR0 : Hid (comb [] (ris spRr S u 16777216 a0) = R) := hideIt (by rw [HX.out, HSB.out]; exact comb_nil _ (ris_err _ _ _))
            clear HSB HX ht hps huk ha0 hu2
            go_enter Tryd.func11, Tryd.ntmps11
            go_wp2_with (first | (go_at_call 27; refine HS.out.mono ?_; rintro e w1 ⟨rfl, hb1⟩))
            go_quiet (first | (go_at_call 18; refine Calls.quiet_of_same (HTI.out _)))
            go_wp2_with (first | (go_at_call 18; refine (HTI.out _).mono ?_; rintro e wx ⟨rfl, hwx⟩; obtain rfl := hwx.symm) | (go_at_call 28; refine (HU.out _).mono ?_; rintro e wx ⟨rfl, hwx⟩; obtain rfl := hwx.symm))
            have hb2 := below2 hb1 (below_drewN w1 nq)
            go_loopw [10, 11, 12, 13] (fun tv tl ta ti wr => ∃ (i a all : Nat) (acc : List It), i ≤ u ∧ a ≤ N ∧ all ≤ 16777216 ∧ ta = .int .i64 (a : Int) ∧ tl = .int .i64 (all : Int) ∧ ti = .int .u64 (i : Int) ∧ acc.length = i ∧ Hid (comb acc (ris spRr S (u - i) (16777216 - all) a) = R) ∧ wr.ownsRow w.heap.size 38 3 tv acc.length (itsV acc) ∧ Below w.heap.size w wr) (fun _ _ _ ti _ => u - (intOf ti).toNat)
            case atStart => exact ⟨0, a0, 0, [], by omega, a3, by omega, by first | rfl | go_num, rfl, rfl, rfl, by simpa using HR0, own_empty hb2, hb2.alloc hb2.size _⟩
            case round =>
              obtain ⟨i, a, all, acc, hi, ha, hall, rfl, rfl, rfl, hacc, HD, hrow, hb⟩ := hrel
              have HO := hideIt hrow
              have HB := hideIt hb
              have hws : w.heap.size ≤ wr.heap.size := hb.size
              have alI : (all : Int) ≤ 16777216 := by omega
              clear hrow hb
              by_cases hlt : i < u
              · have hid : decide ((i : Int) < (u : Int)) = true := decide_eq_true (by omega)
                have i1 : (i : Int) < (u : Int) := by omega
                have x0 := HXD.out a
                have x1 : (a : Int) ≤ (N : Int) := by omega
                have HR1 := hideIt (HG.out a wr)
                obtain ⟨m, hm⟩ : ∃ m, u - i = m + 1 := ⟨u - i - 1, by omega⟩
                have hm2 : u - (i + 1) = m := by omega
                have HKK := hideIt (ri_k (sp := spRr) (L := S.drop a))
                obtain ⟨left, hleft⟩ : ∃ left, 16777216 - all = left := ⟨_, rfl⟩
                have HST : Hid (ris spRr S (m + 1) left a = if (ri spRr (S.drop a)).e ≠ 0 then ((ri spRr (S.drop a)).e, []) else if left < (ri spRr (S.drop a)).d.length then (3, []) else if (ris spRr S m (left - (ri spRr (S.drop a)).d.length) (a + (ri spRr (S.drop a)).k)).1 ≠ 0 then ((ris spRr S m (left - (ri spRr (S.drop a)).d.length) (a + (ri spRr (S.drop a)).k)).1, []) else (0, ⟨(ri spRr (S.drop a)).b, (ri spRr (S.drop a)).d, (a : Int)⟩ :: (ris spRr S m (left - (ri spRr (S.drop a)).d.length) (a + (ri spRr (S.drop a)).k)).2)) := hideIt rfl
                rw [hm, hleft] at HD
                obtain ⟨⟨b, d, k, z⟩, hr⟩ : ∃ r, ri spRr (S.drop a) = r := ⟨_, rfl⟩
                rw [hr] at HR1 HST HKK
                simp only at HST HKK
                by_cases hz : z = 0
                · subst hz
                  have HR2 : Hid (Calls Tryd.prog 29 #[.string (bs (S.drop a))] wr fun e w' => e = .returned (.tuple #[.agg #[.string (bs b), .string (bs d), .int .i64 0], .string (bs ((S.drop a).drop k)), .int .i64 0]) ∧ Below wr.heap.size wr w') := HR1
                  have hk : a + k ≤ N := by have := HKK.out rfl; rw [List.length_drop, HNN.out] at this; omega
                  obtain ⟨a2, ha2⟩ : ∃ a2, a + k = a2 := ⟨_, rfl⟩
                  rw [List.drop_drop] at HR2
                  rw [ha2] at HR2 HST hk
                  rw [if_neg (by simp)] at HST
                  have hes : (bs (S.drop a2)).size = N - a2 := by rw [bs_size, List.length_drop, HNN.out]
                  generalize bs (S.drop a2) = RR at HR2 hes
                  have e1 : (N : Int) - (RR.size : Int) = (a2 : Int) := by omega
                  obtain ⟨q, hq⟩ : ∃ q, (bs d).size = q := ⟨_, rfl⟩
                  have hq2 : d.length = q := by rw [← hq, bs_size]
                  rw [hq2] at HST
                  obtain ⟨X, hX⟩ : ∃ X, bs b = X := ⟨_, rfl⟩
                  obtain ⟨Y, hY⟩ : ∃ Y, bs d = Y := ⟨_, rfl⟩
                  have HXY := hideIt (And.intro hX hY)
                  rw [hX, hY] at HR2
                  have hYs : Y.size = q := by rw [← hY]; exact hq
                  have qB : (q : Int) ≤ 1048576 := by have := ri_d (L := S.drop a); rw [hr] at this; simp only at this; omega
                  generalize bs (S.drop a) = SA at HR2 x0
                  clear hX hY hq hq2 HR1 HKK hr hes
                  obtain ⟨al2, hal2⟩ : ∃ x, all + q = x := ⟨_, rfl⟩
                  have al3 : (all : Int) + (q : Int) = (al2 : Int) := by omega
                  by_cases hl : left < q
                  · have l1 : (16777216 : Int) < (al2 : Int) := by omega
                    have HD2 : Hid (R = (3, [])) := hideIt (by rw [← HD.out, HST.out, if_pos hl]; exact comb_err _ _ (by omega))
                    clear HD HST ha2 hm hm2 hleft hal2
                    go_wp2_with (first | (go_at_call 29; refine HR2.out.mono ?_; rintro e w2 ⟨rfl, hbb⟩))
                    go_ret2
                    exact ScTo.err HD2.out (below2 HB.out (below2 hbb ((Below.refl _ _).alloc (Nat.le_refl _) _)))
                  · have l1 : ¬ (16777216 : Int) < (al2 : Int) := by omega
                    have l2 : al2 ≤ 16777216 := by omega
                    have hp2 : left - q = 16777216 - al2 := by omega
                    rw [if_neg hl, hp2] at HST
                    have HD2 : Hid (comb (acc ++ [⟨b, d, (a : Int)⟩]) (ris spRr S m (16777216 - al2) a2) = R) := hideIt (by rw [← comb_snoc, ← HST.out]; exact HD.out)
                    have HTN : Hid (∀ (w1 : World) (j : Nat) (u : Value), [Value.string X, .string Y, .int .i64 (a : Int)][j]? = some u → ((w1.alloc (.cells #[.string X, .string Y, .int .i64 (a : Int)] 38)).alloc (.cells #[.string X, .string Y, .int .i64 (a : Int)] 38)).cell? ((⟨w1.heap.size + 1, 0, none⟩ : Addr).add j) = some u) := hideIt (fun w1 j u h => by
                      have := three_new (w := w1.alloc (.cells #[.string X, .string Y, .int .i64 (a : Int)] 38)) X Y (a : Int) 38 j u h
                      simpa using this)
                    have HAC := hideIt hacc
                    rw [hacc] at HO
                    obtain ⟨av, cv, hv, hle, hcm, _⟩ := IRow.of_row (l := acc) (by rw [hacc]; exact HO.out)
                    rw [hacc] at hv
                    subst hv
                    have iW : IntKind.u64.wrap ((i : Int) + 1) = ((i + 1 : Nat) : Int) := by rw [IntKind.wrap_u64]; omega
                    clear HD HST ha2 hm hl hle hcm hacc hleft hal2 hp2
                    go_wp2_with (first | (go_at_call 29; refine HR2.out.mono ?_; rintro e w2 ⟨rfl, hbb⟩; have hw1 : wr.heap.size ≤ w2.heap.size := hbb.size; have HO1 := hideIt (own_below HO.out hbb); have HB1 := hideIt (below2 HB.out hbb)) | (at_builtin; refine wpList_append_own _ rfl _ _ 23 rfl w.heap.size 38 i0 (.agg #[.string ⟨#[]⟩, .string ⟨#[]⟩, .int .i64 0]) 3 40 Tryd.underlying23 hi0 hz0 hz1 hz2 rfl (by decide) _ _ _ rfl ((HO1.out.alloc _).alloc _) ⟨w2.heap.size + 1, 0, none⟩ 1 1 [.string X, .string Y, .int .i64 (a : Int)] rfl rfl (HTN.out w2) (fun u hu => by simp at hu; rcases hu with rfl | rfl | rfl <;> rfl) (by unfold maxLen; omega) (by omega) (by simp; omega) ?_; intro v3 w3 hown3 hg3 hnil3))
                    go_roundw
                    case rel =>
                      refine ⟨i + 1, a2, al2, acc ++ [⟨b, d, (a : Int)⟩], by omega, hk, l2, rfl, rfl, by first | rfl | go_num, by simp [HAC.out], by rw [hm2]; exact HD2, ?_, ?_⟩
                      · rw [itsV_snoc]
                        simp only [HXY.out.1, HXY.out.2]
                        simpa [HAC.out] using hown3
                      · exact Below.grown ((HB1.out.alloc (by omega) _).alloc (by simp; omega) _) hg3 (by simp; omega) (row_ge HO.out)
                    case measure => simp [intOf]; omega
                · have HR2 : Hid (Calls Tryd.prog 29 #[.string (bs (S.drop a))] wr fun e w' => e = .returned (.tuple #[.agg #[.string ⟨#[]⟩, .string ⟨#[]⟩, .int .i64 0], .string ⟨#[]⟩, .int .i64 (z : Int)]) ∧ Below wr.heap.size wr w') := hideIt (by have := HR1.out; rw [rgV] at this; simp only [hz, if_false] at this; exact this)
                  have z1 : ¬ (z : Int) = 0 := by omega
                  have z2 : ((z : Int) != 0) = true := by simpa using z1
                  have z3 : ((z : Int) == 0) = false := by simpa using z1
                  have HD2 : Hid (R = (z, [])) := hideIt (by rw [← HD.out, HST.out, if_pos hz]; exact comb_err _ _ hz)
                  generalize bs (S.drop a) = SA at HR2 x0
                  clear HR1 HD HST HKK hz hm hm2 hr hleft
                  go_wp2_with (first | (go_at_call 29; refine HR2.out.mono ?_; rintro e w2 ⟨rfl, hbb⟩))
                  go_ret2
                  exact ScTo.err HD2.out (below2 HB.out (below2 hbb ((Below.refl _ _).alloc (Nat.le_refl _) _)))
              · have hid : decide ((i : Int) < (u : Int)) = false := decide_eq_false (by omega)
                obtain rfl : i = u := by omega
                have HZ : Hid (ris spRr S (i - i) (16777216 - all) a = if a < N then (5, []) else (0, [])) := hideIt (by rw [Nat.sub_self, ris, HNN.out])
                by_cases hlt2 : a < N
                · have g1 : (a : Int) < (N : Int) := by omega
                  have g2 : decide ((a : Int) < (N : Int)) = true := decide_eq_true g1
                  have HD2 : Hid (R = (5, [])) := hideIt (by rw [← HD.out, HZ.out, if_pos hlt2]; exact comb_err _ _ (by omega))
                  clear HD HZ
                  go_wp2
                  go_ret2
                  exact ScTo.err HD2.out HB.out
                · have g1 : ¬ (a : Int) < (N : Int) := by omega
                  have g2 : decide ((a : Int) < (N : Int)) = false := decide_eq_false g1
                  have HD2 : Hid (R = (0, acc)) := hideIt (by rw [← HD.out, HZ.out, if_neg hlt2]; simp [comb])
                  clear HD HZ
                  go_wp2
                  go_ret2
                  refine (HT.out _ _).2 ⟨u10, ?_, ?_, HB.out⟩
                  · rw [HD2.out]; rfl
                  · rw [HD2.out]; exact HO.out
        · have v1 : ¬ (y : Int) = 0 := by omega
          have v2 : ((y : Int) != 0) = true := by simpa using v1
          have v3 : ((y : Int) == 0) = false := by simpa using v1
          have HR2 : Hid (R = (y, [])) := hideIt (by rw [HX.out, HSB.out, if_pos hy])
          clear HSB HX ht hps huk hy
          go_enter Tryd.func11, Tryd.ntmps11
          go_wp2_with (first | (go_at_call 27; refine HS.out.mono ?_; rintro e w1 ⟨rfl, hb1⟩))
          go_quiet (first | (go_at_call 18; refine Calls.quiet_of_same (HTI.out _)))
          go_wp2_with (first | (go_at_call 18; refine (HTI.out _).mono ?_; rintro e wx ⟨rfl, hwx⟩; obtain rfl := hwx.symm) | (go_at_call 28; refine (HU.out _).mono ?_; rintro e wx ⟨rfl, hwx⟩; obtain rfl := hwx.symm))
          go_ret2
          exact ScTo.err HR2.out (below2 hb1 (below_drewN _ _))
      · rw [decide_eq_false ht] at hcmp
        have HR2 : Hid (R = (6, [])) := hideIt (by rw [HX.out, HSB.out, if_pos ht])
        clear HSB HX ht hps huk
        go_enter Tryd.func11, Tryd.ntmps11
        go_wp2_with (first | (go_at_call 27; refine HS.out.mono ?_; rintro e w1 ⟨rfl, hb1⟩))
        go_quiet (first | (go_at_call 18; refine Calls.quiet_of_same (HTI.out _)))
        go_wp2
        go_ret2
        exact ScTo.err HR2.out (below2 hb1 (below_drewN _ _))
  · have v1 : ¬ (z : Int) = 0 := by omega
    have v2 : ((z : Int) != 0) = true := by simpa using v1
    have v3 : ((z : Int) == 0) = false := by simpa using v1
    have HR2 : Hid (R = (z, [])) := hideIt (by rw [HX.out, if_pos h0])
    clear HX hR hz h0
    go_enter Tryd.func11, Tryd.ntmps11
    go_wp2_with (first | (go_at_call 27; refine HS.out.mono ?_; rintro e w1 ⟨rfl, hb1⟩))
    go_ret2
    exact ScTo.err HR2.out hb1
end Go.Proofs.YtjiigdjopcegeaaDoor.Pk
