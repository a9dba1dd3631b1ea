/- A repetition, walked. -/
import Derived.Test.YtddbhhankmejmaaGreatDoorLdSpreadw
namespace Go.Proofs.YtddbhhankmejmaaGreatDoor.Ld
open Cb
open Go.RowKit
theorem own_some {w : World} {B n : Nat} {v : Value} {xs : List Value} (h : w.ownsRow B 5 1 v n xs) (hn : 0 < n) : ∃ g c, v = .slice (some ⟨g, 0, none⟩) n c := by
  rcases h.2 with ⟨_, e2⟩ | ⟨g, cap, cur, e, _⟩
  · omega
  · exact ⟨_, _, e⟩
theorem take_more {S : List UInt8} {k : Nat} {x : UInt8} (h : S[k]? = some x) : S.take k ++ [x] = S.take (k + 1) := by
  obtain ⟨hk, rfl⟩ := List.getElem?_eq_some_iff.1 h
  rw [List.take_succ_eq_append_getElem hk]
set_option maxHeartbeats 1600000 in
set_option maxRecDepth 100000 in
theorem again_any (N g left i b q : Nat) (S R : List UInt8) (v : Value) (r : ByteArray) (w0 w : World) (h : SpMem N g (S.take i) v r w0 w) (hr : r.data.toList = Cd.numL b ++ Cd.numL q ++ R) (hb1 : 1 ≤ b) (hb2 : b ≤ i) (hb3 : b ≤ 32768) (hq : q + 4 ≤ left) (hl : left ≤ 1048576) (hiS : i + (q + 4) ≤ S.length) (hS : S.length ≤ 1048576)
    (hsame : ∀ k, k < q + 4 → S[i + k - b]? = S[i + k]?) (hs : r.size ≤ 100000000) :
    Calls Tryz.prog 98 #[.pointer (some ⟨g, 0, none⟩), .int .i64 (left : Int)] w fun e w' => e = .returned (.int .i64 0) ∧ ∃ v' r', r'.data.toList = R ∧ SpMem N g (S.take (i + (q + 4))) v' r' w0 w' := by
  obtain ⟨i0, hi0, hz0, hz1, hz2⟩ := info_parts infoB
  have hlen : ∀ k, k ≤ S.length → (S.take k).length = k := fun k hk => by rw [List.length_take]; omega
  rw [List.append_assoc] at hr
  obtain ⟨pu, pd⟩ := past_num hr (by omega)
  obtain ⟨mn, hmn⟩ : ∃ mn, min 32768 i = mn := ⟨_, rfl⟩
  have hmi : (if (i : Int) < 32768 then (i : Int) else 32768) = (mn : Int) := by split <;> omega
  have HN := hideIt (number_ok g b _ mn v r w h.blk pu (by omega) (by omega) hs)
  obtain ⟨r1, hr1⟩ : ∃ r1, r.extract (Cd.numL b).length r.size = r1 := ⟨_, rfl⟩
  rw [hr1] at HN pd
  have hs1 := h.rest r1
  obtain ⟨w1, hw1⟩ : ∃ w1, w.setCell ⟨g, 1, none⟩ (.string r1) = w1 := ⟨_, rfl⟩
  rw [hw1] at HN hs1
  obtain ⟨pu2, pd2⟩ := past_num pd (by omega)
  obtain ⟨l4, hl4⟩ : ∃ l4, left - 4 = l4 := ⟨_, rfl⟩
  have l1 : (left : Int) - 4 = (l4 : Int) := by omega
  have r1s : r1.size ≤ 100000000 := by
    have e1 : r1.size = r1.data.toList.length := (str_len r1).symm
    have e2 : r.size = r.data.toList.length := (str_len r).symm
    rw [e1, pd]
    rw [e2, hr, List.length_append] at hs
    omega
  have HN2 := hideIt (number_ok g q _ l4 v r1 w1 hs1.blk pu2 (by omega) (by omega) r1s)
  obtain ⟨r2, hr2⟩ : ∃ r2, r1.extract (Cd.numL q).length r1.size = r2 := ⟨_, rfl⟩
  rw [hr2] at HN2 pd2
  have hs2 := hs1.rest r2
  obtain ⟨w2, hw2⟩ : ∃ w2, w1.setCell ⟨g, 1, none⟩ (.string r2) = w2 := ⟨_, rfl⟩
  rw [hw2] at HN2 hs2
  obtain ⟨sa, sc, hsv⟩ := slice_of h.own
  rw [hlen i (by omega)] at hsv
  have c0 := spc0 h.blk
  obtain ⟨c, hc⟩ : ∃ c, q + 4 = c := ⟨_, rfl⟩
  rw [hc] at hsame hiS ⊢
  have c1 : (q : Int) + 4 = (c : Int) := by omega
  have cI : (c : Int) ≤ 1048576 := by omega
  have bI : ¬ (b : Int) = 0 := by omega
  have bI2 : ((b : Int) == 0) = false := by simp; omega
  have HS2 := hideIt hs2
  have HPD := hideIt pd2
  have HSM := hideIt hsame
  have HLN := hideIt hlen
  have HC := hideIt hc
  have HL4 := hideIt hl4
  have qI : (q : Int) ≤ 1048576 := by omega
  have iI : (i : Int) ≤ 1048576 := by omega
  have lI : (left : Int) ≤ 1048576 := by omega
  clear hs2 pd2 hsame hlen hr pu pd hs1 hmn hw1 hw2 hr1 hr2 pu2 h hc hl4
  subst hsv
  go_enter Tryz.func98, Tryz.ntmps98
  go_wp2_with (first | (go_at_call_of 96 (Value.int IntKind.i64 (mn : Int)); refine HN.out.mono ?_; rintro e wx ⟨rfl, hwx⟩; obtain rfl := hwx.symm) | (go_at_call 96; refine HN2.out.mono ?_; rintro e wy ⟨rfl, hwy⟩; obtain rfl := hwy.symm))
  go_loopw [36] (fun t wr => ∃ (j : Nat) (v' : Value), j ≤ c ∧ t = .int .i64 j ∧ SpMem N g (S.take (i + j)) v' r2 w0 wr) (fun t _ => c - (intOf t).toNat)
  case atStart => exact ⟨0, _, by omega, rfl, HS2.out⟩
  case round =>
    obtain ⟨j, v', hj, rfl, hr⟩ := hrel
    clear HS2 HN HN2 c0
    by_cases hlt : j < c
    · have hid : decide ((j : Int) < (c : Int)) = true := by simp; omega
      have hln := HLN.out (i + j) (by omega)
      obtain ⟨gt, cap, hv⟩ := own_some hr.own (by rw [hln]; omega)
      rw [hln] at hv
      obtain ⟨n, hn⟩ : ∃ n, i + j = n := ⟨_, rfl⟩
      obtain ⟨p, hp⟩ : ∃ p, n - b = p := ⟨_, rfl⟩
      obtain ⟨x, hx⟩ : ∃ x, S[p]? = some x := ⟨S[p]'(by omega), by simp⟩
      have hx2 : S[n]? = some x := by
        have := HSM.out j hlt
        rw [hn, hp, hx] at this
        exact this.symm
      rw [hn] at hr hln hv
      subst hv
      have own := hr.own
      rw [hln] at own
      have ct := own.cellAt p (by rw [Nat.mul_one]; omega)
      have hpn : p < (S.take n).length := by rw [hln]; omega
      have hpx : (S.take n)[p] = x := by
        have : (S.take n)[p]? = some x := by rw [List.getElem?_take, if_pos (by omega)]; exact hx
        rw [List.getElem?_eq_getElem hpn] at this
        exact Option.some.inj this
      rw [u8s_at _ _ hpn, hpx] at ct
      have d0 := spc0 hr.blk
      have f0 := spf 0 hr.blk
      have hgs : g < wr.heap.size := (Array.getElem?_eq_some_iff.1 hr.blk).1
      have d1 : (wr.alloc (.cells #[.int .u8 (x.toNat : Int)] 5)).cell? ⟨g, 0, none⟩ = some (.slice (some ⟨gt, 0, none⟩) n cap) := spc0 (by rw [Below.heap_alloc _ _ _ hgs]; exact hr.blk)
      have n1 : (n : Int) - (b : Int) = (p : Int) := by omega
      have p1 : (p : Int) < (n : Int) := by omega
      have nI : (n : Int) ≤ 1048576 := by omega
      have pw : IntKind.i64.wrap (p : Int) = (p : Int) := by rw [IntKind.wrap_i64]; omega
      have HB := hideIt hr.below
      have HT := hideIt (take_more hx2)
      have HSZ := hideIt hr.size
      have HX : Hid (∀ (k : Nat) (v' : Value) (o : Obj) (w3 : World), w3.ownsRow N 5 1 v' (n + 1) (u8s (S.take n) ++ u8s [x]) → ((wr.drewN k).alloc o).grownBy w3 (some gt) → w3.heap[g]? = some (.cells #[.slice (some ⟨gt, 0, none⟩) n cap, .string r2] 131 (0, 0)) ∧ SpMem N g (S.take (n + 1)) v' r2 w0 (w3.setCell ⟨g, 0, none⟩ v')) := by
        refine hideIt (fun k v' o w3 h2 hg2 => ?_)
        have := hr.text (w1 := (wr.drewN k).alloc o) (M := [x]) (n := n + 1) ((Below.refl _ _).trans (((show Below wr.heap.size wr (wr.drewN k) from ⟨rfl, rfl, rfl, Nat.le_refl _, fun _ _ => rfl⟩)).alloc (Nat.le_refl _) o)) (by rw [hln]; rfl) h2 hg2
        rw [HT.out] at this
        exact this
      have HN1 := hideIt hn
      have HP1 := hideIt hp
      clear hr hn hp hx hx2 hpn hpx
      go_wp2
      go_region_law (refine step_append_own (by rfl) _ _ 82 (by rfl) N 5 i0 (.int .u8 0) 1 1 Tryz.underlying82 hi0 hz0 hz1 hz2 rfl (by decide) _ n (u8s (S.take n)) (by rfl) (own.drew.alloc _) ⟨wr.heap.size, 0, none⟩ 1 1 (u8s [x]) (by rfl) rfl (one_cellN x _ rfl) (u8s_one _) (by unfold maxLen; omega) (by omega) (by have := HSZ.out; simp; omega) ?_; intro v' w3 hown2 hg2; obtain ⟨va, vc, rfl⟩ := slice_of hown2; obtain ⟨t1, t2⟩ := HX.out 1 _ _ _ hown2 hg2; have s2 := spc0 t1; have s3 := spf 0 t1; have T2 := hideIt t2; clear t1 t2)
      all_goals go_wp2
      all_goals go_roundw
      all_goals first | exact ⟨j + 1, _, by omega, by go_num, by rw [show i + (j + 1) = n + 1 from by have := HN1.out; omega]; exact T2.out⟩ | (simp [intOf]; omega)
    · have hid : decide ((j : Int) < (c : Int)) = false := by simp; omega
      obtain rfl : j = c := by omega
      have HR := hideIt hr
      clear hr
      go_wp2
      go_ret
      exact ⟨rfl, _, r2, HPD.out, HR.out⟩
end Go.Proofs.YtddbhhankmejmaaGreatDoor.Ld
