/- The document's Links, walked. -/
import Derived.Test.YtmjffngpaoaflaaGreatDoorLka
import Derived.Test.YtmjffngpaoaflaaGreatDoorPc
import Derived.Test.YtmjffngpaoaflaaGreatDoorPt
import Derived.Test.YtmjffngpaoaflaaGreatDoorPo
import Derived.Test.YtmjffngpaoaflaaGreatDoorTx
namespace Go.Proofs.YtmjffngpaoaflaaGreatDoor
namespace Ob
open Go.RowKit Go.Shelf
theorem two_cells {w : World} {b : Nat} {k : Int} {s : ByteArray} {t : TypeId} {fr : Nat × Nat} (h : w.heap[b]? = some (.cells #[.int .i64 k, .string s] t fr)) : w.cell? ⟨b, 0, none⟩ = some (.int .i64 k) ∧ w.cell? ⟨b, 1, none⟩ = some (.string s) := by
  constructor <;> simp [World.cell?, h]
set_option maxHeartbeats 6400000 in
set_option maxRecDepth 100000 in
theorem reflinks_any (L : List UInt8) (w : World) (hL : L.length ≤ 100000) :
    Calls Tryz.prog 11 #[.string (bs L)] w fun e w' => LkTo w (links L) e w' := by
  obtain ⟨i0, hi0, hz0, hz1, hz2⟩ := info_parts infoM
  have HT : Hid (∀ e w', LkTo w (links L) e w' ↔ ∃ v, e = .returned (.tuple #[v, .int .i64 (links L).2]) ∧ LRow w' v (links L).1 ∧ Below w.heap.size w w') := hideIt (fun _ _ => Iff.rfl)
  have HS := hideIt (refopen_any L (by omega) w)
  have hbl : (opn L).2.1.length ≤ L.length := by
    unfold opn
    split
    · simp
    · rename_i h body hc
      have e := (cutc_some 0 L h body hc).1
      have hl : body.length ≤ L.length := by rw [e]; simp; omega
      split
      · simp
      · split
        · simp
        · unfold opn3
          split
          · simp
          · repeat' split
            all_goals first | exact hl | simp
  have HL : Hid (links L = if (opn L).2.2 = 0 then (if (opn L).1 = 2 then treeLk (opn L).2.1 else if (opn L).1 = 3 then comLk (opn L).2.1 else if (opn L).1 = 4 then tagLk (opn L).2.1 else ([], 0)) else ([], (opn L).2.2)) := rfl
  unfold opV at HS
  obtain ⟨k, hkk⟩ : ∃ k, (opn L).1 = k := ⟨_, rfl⟩
  obtain ⟨b, hb⟩ : ∃ b, (opn L).2.1 = b := ⟨_, rfl⟩
  obtain ⟨z, hz⟩ : ∃ z, (opn L).2.2 = z := ⟨_, rfl⟩
  rw [hkk, hb, hz] at HS HL
  rw [hb] at hbl
  obtain ⟨S, hS⟩ : ∃ S, bs L = S := ⟨_, rfl⟩
  rw [hS] at HS ⊢
  clear hkk hb hz hS
  have HBE := hideIt (fun (w1 : World) => new_below w1 (.cells #[] 36))
  by_cases h0 : z = 0
  · subst h0
    rw [if_pos rfl] at HL
    by_cases k2 : k = 2
    · subst k2
      rw [if_pos rfl] at HL
      unfold treeLk at HL
      have HD : Hid (∀ w, Calls Tryz.prog 32 #[.string (bs b)] w fun e w' => ∃ a k, e = .returned (.tuple #[.slice a (dec b).2.length k, .int .i64 (dec b).1]) ∧ k ≤ maxLen ∧ (0 < (dec b).2.length → ∃ g o, a = some ⟨g, o, none⟩ ∧ ECells w' g o (dec b).2) ∧ (dec b).2.length ≤ k ∧ Below w.heap.size w w') := hideIt (fun w => (refget_any b (by omega) w).mono (by
        rintro e w' ⟨v, rfl, ⟨a, k, rfl, h2, h3, h4⟩, h5⟩
        exact ⟨a, k, rfl, h3.1, h4, h2, h5⟩))
      have hn := dec_len b
      obtain ⟨es, hes⟩ : ∃ es, (dec b).2 = es := ⟨_, rfl⟩
      obtain ⟨z, hz⟩ : ∃ z, (dec b).1 = z := ⟨_, rfl⟩
      rw [hes, hz] at HL HD
      rw [hes] at hn
      obtain ⟨Y, hY⟩ : ∃ S, bs b = S := ⟨_, rfl⟩
      rw [hY] at HS HD
      obtain ⟨n, hnn⟩ : ∃ n, es.length = n := ⟨_, rfl⟩
      have HN := hideIt hnn
      rw [hnn] at HD hn
      clear hes hz hY hnn hL hbl
      have nI : (n : Int) ≤ 256 := by omega
      go_enter Tryz.func11, Tryz.ntmps11
      go_wp2_with (first
        | (go_at_call 9; refine HS.out.mono ?_; rintro e w0 ⟨rfl, hb0⟩; have HB0 := hideIt (below2 hb0 (HBE.out w0)); clear hb0)
        | (go_at_call 32; refine (HD.out _).mono ?_; rintro e w1 ⟨a1, k1, rfl, hm1, hcells, hlc, hb1⟩; have HC := hideIt hcells; have HB1 := hideIt (below2 HB0.out hb1); clear hcells hb1; unfold maxLen at hm1))
      go_loopw [7, 10] (fun v t wr => ∃ i : Nat, i ≤ n ∧ t = .int .i64 i ∧ LOwn wr w1.heap.size 36 v ((es.take i).map enLk) ∧ Below w1.heap.size w1 wr) (fun _ t _ => n - (intOf t).toNat)
      case atStart => exact ⟨0, by omega, rfl, .inl ⟨rfl, _, rfl⟩, Below.refl _ _⟩
      case round =>
        obtain ⟨i, hi, rfl, hown, hbl⟩ := hrel
        have HO := hideIt hown
        have HBL := hideIt hbl
        clear hown hbl
        by_cases hlt : i < n
        · have i1 : decide ((i : Int) < (n : Int)) = true := decide_eq_true (by omega)
          have i2 : (i : Int) < (n : Int) := by omega
          obtain ⟨g, o, hab, hcl⟩ := HC.out (by omega)
          subst hab
          obtain ⟨x, hxi⟩ : ∃ x, es[i]? = some x := ⟨es[i]'(by rw [HN.out]; exact hlt), by simp⟩
          obtain ⟨y0, y1, y2⟩ := (hcl.below HBL.out).2 i x hxi
          have HTK : Hid ((es.take (i + 1)).map enLk = (es.take i).map enLk ++ [enLk x]) := hideIt (by rw [List.take_add_one, hxi]; simp)
          have hsz : w1.heap.size ≤ wr.heap.size := HBL.out.size
          have HEN : Hid (enLk x = ⟨if x.md = 3 then 2 else 1, x.ids⟩) := rfl
          obtain ⟨nm, md, ids⟩ := x
          obtain ⟨-, x1, x2⟩ := ((hcl.below HBL.out).below (new_below wr (.cells #[.int .i64 1, .string ids] 36))).2 i _ hxi
          simp only at y0 y1 y2 x1 x2 HEN
          have HW0 : Hid ((wr.alloc (.cells #[.int .i64 1, .string ids] 36)).heap[wr.heap.size]? = some (.cells #[.int .i64 1, .string ids] 36 (0, 0))) := hideIt (Cb.alloc_at rfl)
          obtain ⟨e0, e1⟩ := two_cells HW0.out
          have f0 := Lib.frozen_of_heap HW0.out 0
          clear hcl hxi
          by_cases hmd : md = 3
          · subst hmd
            rw [if_pos rfl] at HEN
            rw [HEN.out] at HTK
            have HWB : Hid (Below wr.heap.size wr ((wr.alloc (.cells #[.int .i64 2, .string ids] 36)).alloc (.cells #[.int .i64 2, .string ids] 36))) := hideIt (below2 (new_below _ _) (new_below _ _))
            have HTN : Hid (∀ (j : Nat) (u : Value), [Value.int .i64 2, .string ids][j]? = some u → ((wr.alloc (.cells #[.int .i64 2, .string ids] 36)).alloc (.cells #[.int .i64 2, .string ids] 36)).cell? ((⟨wr.heap.size + 1, 0, none⟩ : Addr).add j) = some u) := hideIt (fun j u h => by
              have := two_new (w := wr.alloc (.cells #[.int .i64 2, .string ids] 36)) ⟨2, ids⟩ 36 j u h
              simpa using this)
            go_wp2_with (first | (at_builtin; refine append_lk _ rfl _ _ 31 36 rfl i0 Tryz.underlying31 hi0 hz0 hz1 hz2 w1.heap.size _ ((es.take i).map enLk) rfl (HO.out.below HWB.out) ⟨wr.heap.size + 1, 0, none⟩ ⟨2, ids⟩ rfl HTN.out (by simp; omega) (Nat.le_trans hsz HWB.out.size) ?_; intro v3 w3 hown3 hb3))
            go_roundw
            case rel =>
              refine ⟨i + 1, by omega, by go_num, .inr ?_, (HBL.out.trans (HWB.out.mono hsz)).trans hb3⟩
              rw [HTK.out]
              simpa using hown3
            case measure => simp [intOf]; omega
          · have m1 : (md == 3) = false := by simpa using hmd
            rw [if_neg hmd] at HEN
            rw [HEN.out] at HTK
            have HWB : Hid (Below wr.heap.size wr ((wr.alloc (.cells #[.int .i64 1, .string ids] 36)).alloc (.cells #[.int .i64 1, .string ids] 36))) := hideIt (below2 (new_below _ _) (new_below _ _))
            have HTN : Hid (∀ (j : Nat) (u : Value), [Value.int .i64 1, .string ids][j]? = some u → ((wr.alloc (.cells #[.int .i64 1, .string ids] 36)).alloc (.cells #[.int .i64 1, .string ids] 36)).cell? ((⟨wr.heap.size + 1, 0, none⟩ : Addr).add j) = some u) := hideIt (fun j u h => by
              have := two_new (w := wr.alloc (.cells #[.int .i64 1, .string ids] 36)) ⟨1, ids⟩ 36 j u h
              simpa using this)
            go_wp2_with (first | (at_builtin; refine append_lk _ rfl _ _ 31 36 rfl i0 Tryz.underlying31 hi0 hz0 hz1 hz2 w1.heap.size _ ((es.take i).map enLk) rfl (HO.out.below HWB.out) ⟨wr.heap.size + 1, 0, none⟩ ⟨1, ids⟩ rfl HTN.out (by simp; omega) (Nat.le_trans hsz HWB.out.size) ?_; intro v3 w3 hown3 hb3))
            go_roundw
            case rel =>
              refine ⟨i + 1, by omega, by go_num, .inr ?_, (HBL.out.trans (HWB.out.mono hsz)).trans hb3⟩
              rw [HTK.out]
              simpa using hown3
            case measure => simp [intOf]; omega
        · obtain rfl : i = n := by omega
          have i1 : decide ((i : Int) < (i : Int)) = false := decide_eq_false (by omega)
          go_wp2
          go_ret2
          refine (HT.out _ _).2 ⟨_, by rw [HL.out] <;> rfl, ?_, below2 HB1.out HBL.out⟩
          rw [HL.out]
          have := HO.out.row
          rw [← HN.out, List.take_length] at this
          exact this
    · have q2 : (k == 2) = false := by simpa using k2
      rw [if_neg k2] at HL
      by_cases k3 : k = 3
      · subst k3
        rw [if_pos rfl] at HL
        unfold comLk at HL
        have HG := hideIt (fun w => refgetCommit_any b w (by omega))
        have HLN : Hid (gCz b = 0 → (gCm b).ps.length ≤ 4) := hideIt (fun h => by
          unfold gCz at h
          split at h
          · exact (comE_ok h).1
          · omega)
        obtain ⟨Y, hY⟩ : ∃ S, bs b = S := ⟨_, rfl⟩
        rw [hY] at HG HS
        obtain ⟨z, hz⟩ : ∃ z, gCz b = z := ⟨_, rfl⟩
        have HZ := hideIt hz
        rw [hz] at HL HLN
        clear hL hY hbl
        by_cases h0 : z = 0
        · subst h0
          rw [if_pos rfl] at HL
          obtain ⟨d, hd⟩ : ∃ d, gCm b = d := ⟨_, rfl⟩
          have HG2 : Hid (∀ w, Calls Tryz.prog 20 #[.string Y] w fun e w' => ∃ a k, e = .returned (.tuple #[.agg #[.string d.tr, .slice a d.ps.length k, .string d.au, .int .u64 (d.tm : Int), .string d.tx], .int .i64 0]) ∧ SRow w' (.slice a d.ps.length k) d.ps ∧ Below w.heap.size w w') := hideIt (fun w => (HG.out w).mono (by
            rintro e w' ⟨c, rfl, h1, h2, h3, h4⟩
            have hc := h2 HZ.out
            rw [hd] at hc
            obtain ⟨tr, pv, ps, au, tm, tx⟩ := c
            simp only [Cm.mk.injEq, true_and] at hc
            obtain ⟨rfl, rfl, rfl, rfl, rfl⟩ := hc
            have hr := h1
            obtain ⟨a, k, e, _⟩ := h1
            simp only at e hr
            subst e
            exact ⟨a, k, by rw [HZ.out]; rfl, hr, h4⟩))
          rw [hd] at HL HLN
          have hlen := HLN.out rfl
          obtain ⟨tr, pv, ps, au, tm, tx⟩ := d
          simp only at HG2 HL hlen
          obtain ⟨n, hn⟩ : ∃ n, ps.length = n := ⟨_, rfl⟩
          have HN := hideIt hn
          rw [hn] at HG2 hlen
          clear hd hz HG HLN hn HZ
          have nI : (n : Int) ≤ 4 := by omega
          go_enter Tryz.func11, Tryz.ntmps11
          go_wp2_with (first
            | (go_at_call 9; refine HS.out.mono ?_; rintro e w0 ⟨rfl, hb0⟩; have HB0 := hideIt (below2 hb0 (HBE.out w0)); clear hb0)
            | (go_at_call 20; refine (HG2.out _).mono ?_; rintro e w1 ⟨a1, k1, rfl, hr1, hb1⟩; have HB1 := hideIt (below2 HB0.out hb1); have C1 := hideIt (CBox.new w1 43 ⟨tr, .slice a1 n k1, ps, au, tm, tx⟩); have c0 := C1.out.c0; have c1 := C1.out.c1; dsimp only [cmO] at c0 c1)
            | (at_builtin; refine append_lk _ rfl _ _ 31 36 rfl i0 Tryz.underlying31 hi0 hz0 hz1 hz2 (w1.alloc (.cells #[.string tr, .slice a1 n k1, .string au, .int .u64 (tm : Int), .string tx] 43)).heap.size _ [] rfl (.inl ⟨rfl, _, rfl⟩) ⟨w1.heap.size + 1, 0, none⟩ ⟨2, tr⟩ rfl (by
                intro j u h
                have := two_new (w := w1.alloc (.cells #[.string tr, .slice a1 n k1, .string au, .int .u64 (tm : Int), .string tx] 43)) ⟨2, tr⟩ 36 j u h
                simpa using this) (by simp) (new_below _ _).size ?_; intro v3 w3 hown3 hb3))
          obtain ⟨a', k', he, hlc, hcm, hcells⟩ := hr1
          simp only [Value.slice.injEq] at he
          obtain ⟨rfl, hne, rfl⟩ := he
          have hm1 := hcm.1
          unfold maxLen at hm1
          obtain ⟨W, hW⟩ : ∃ W, w1.alloc (.cells #[.string tr, .slice a1 n k1, .string au, .int .u64 (tm : Int), .string tx] 43) = W := ⟨_, rfl⟩
          have HBW : Hid (Below w1.heap.size w1 W) := hideIt (by rw [← hW]; exact new_below _ _)
          have HSZ : Hid (W.heap.size = w1.heap.size + 1) := hideIt (by rw [← hW]; simp)
          rw [hW] at hown3 hb3
          have HC : Hid (0 < n → ∃ b o, a1 = some ⟨b, o, none⟩ ∧ SCells W b o ps) := hideIt (fun h => by
            obtain ⟨b, o, e, hc⟩ := hcells (by rw [HN.out]; exact h)
            exact ⟨b, o, e, hc.below HBW.out⟩)
          have HCB : Hid (CBox W w1.heap.size 43 ⟨tr, .slice a1 n k1, ps, au, tm, tx⟩) := hideIt (by rw [← hW]; exact C1.out)
          have HW3 : Hid (Below W.heap.size W w3) := hideIt ((new_below W (.cells #[.int .i64 2, .string tr] 36)).trans hb3)
          have HS0 : Hid (LOwn w3 W.heap.size 36 v3 [⟨2, tr⟩]) := hideIt (.inr hown3)
          clear hb1 hcells hcm hne hW hown3 hb3 C1 c0 c1
          go_loopw [7, 14] (fun v t wr => ∃ i : Nat, i ≤ n ∧ t = .int .i64 i ∧ LOwn wr W.heap.size 36 v (⟨2, tr⟩ :: (ps.take i).map (fun p => ⟨3, p⟩)) ∧ Below W.heap.size W wr) (fun _ t _ => n - (intOf t).toNat)
          case atStart => exact ⟨0, by omega, rfl, HS0.out, HW3.out⟩
          case round =>
            obtain ⟨i, hi, rfl, hown, hbl⟩ := hrel
            have HO := hideIt hown
            have HBL := hideIt hbl
            have c1 := (HCB.out.below hbl).c1
            dsimp only at c1
            clear hown hbl HS0 HW3
            by_cases hlt : i < n
            · have i1 : decide ((i : Int) < (n : Int)) = true := decide_eq_true (by omega)
              have i2 : (i : Int) < (n : Int) := by omega
              obtain ⟨b, o, hab, hcl⟩ := HC.out (by omega)
              subst hab
              obtain ⟨y, hyi⟩ : ∃ y, ps[i]? = some y := ⟨ps[i]'(by rw [HN.out]; exact hlt), by simp⟩
              have cy := (hcl.below HBL.out).2 i y hyi
              have HTK : Hid (ps.take (i + 1) = ps.take i ++ [y]) := hideIt (by rw [List.take_add_one, hyi]; rfl)
              have hsz : W.heap.size ≤ wr.heap.size := HBL.out.size
              clear hcl hyi
              go_wp2_with (first | (at_builtin; refine append_lk _ rfl _ _ 31 36 rfl i0 Tryz.underlying31 hi0 hz0 hz1 hz2 W.heap.size _ (⟨2, tr⟩ :: (ps.take i).map (fun p => ⟨3, p⟩)) rfl (HO.out.below (new_below _ _)) ⟨wr.heap.size, 0, none⟩ ⟨3, y⟩ rfl (two_new (w := wr) ⟨3, y⟩ 36) (by simp; omega) (by simp; omega) ?_; intro v3 w3 hown3 hb3))
              go_roundw
              case rel =>
                refine ⟨i + 1, by omega, by go_num, .inr ?_, (HBL.out.alloc hsz _).trans hb3⟩
                rw [HTK.out]
                simpa using hown3
              case measure => simp [intOf]; omega
            · obtain rfl : i = n := by omega
              have i1 : decide ((i : Int) < (i : Int)) = false := decide_eq_false (by omega)
              go_wp2
              go_ret2
              refine (HT.out _ _).2 ⟨_, by rw [HL.out] <;> rfl, ?_, below2 (below2 HB1.out HBW.out) HBL.out⟩
              rw [HL.out]
              have := HO.out.row
              rw [← HN.out, List.take_length] at this
              exact this
        · have z1 : (z != 0) = true := by simpa using h0
          rw [if_neg h0] at HL
          have HG2 : Hid (∀ w, Calls Tryz.prog 20 #[.string Y] w fun e w' => e = .returned (.tuple #[.agg #[.string ⟨#[]⟩, .slice none 0 0, .string ⟨#[]⟩, .int .u64 0, .string ⟨#[]⟩], .int .i64 z]) ∧ Below w.heap.size w w') := hideIt (fun w => (HG.out w).mono (by
            rintro e w' ⟨c, rfl, h1, h2, h3, h4⟩
            rw [h3 (by rw [HZ.out]; exact h0), HZ.out]
            exact ⟨rfl, h4⟩))
          clear HG hz HZ
          go_enter Tryz.func11, Tryz.ntmps11
          go_wp2_with (first
            | (go_at_call 9; refine HS.out.mono ?_; rintro e w0 ⟨rfl, hb0⟩; have HB0 := hideIt (below2 hb0 (HBE.out w0)); clear hb0)
            | (go_at_call 20; refine (HG2.out _).mono ?_; rintro e w1 ⟨rfl, hb1⟩))
          go_ret2
          exact (HT.out _ _).2 ⟨.slice none 0 0, by rw [HL.out] <;> rfl, by rw [HL.out]; exact LRow.nil _, below2 (below2 HB0.out hb1) (new_below _ _)⟩
      · have q3 : (k == 3) = false := by simpa using k3
        rw [if_neg k3] at HL
        by_cases k4 : k = 4
        · subst k4
          rw [if_pos rfl] at HL
          unfold tagLk at HL
          have HG := hideIt (fun w => refgetTag_any b w (by omega))
          obtain ⟨Y, hY⟩ : ∃ S, bs b = S := ⟨_, rfl⟩
          rw [hY] at HG HS
          obtain ⟨t, ht⟩ : ∃ t, (gT b).1 = t := ⟨_, rfl⟩
          obtain ⟨z, hz⟩ : ∃ z, (gT b).2 = z := ⟨_, rfl⟩
          rw [ht, hz] at HG HL
          obtain ⟨tgt, kd, nm, tx⟩ := t
          unfold tgV at HG
          simp only at HG HL
          have HB : Hid (∀ (w1 : World), TBox (w1.alloc (.cells #[.string tgt, .int .i64 kd, .string nm, .string tx] 61)) w1.heap.size 61 ⟨tgt, kd, nm, tx⟩) := hideIt (fun w1 => TBox.new w1 61 ⟨tgt, kd, nm, tx⟩)
          clear hY ht hz hL hbl
          by_cases h0 : z = 0
          · subst h0
            rw [if_pos rfl] at HL
            go_enter Tryz.func11, Tryz.ntmps11
            go_wp2_with (first
              | (go_at_call 9; refine HS.out.mono ?_; rintro e w0 ⟨rfl, hb0⟩; have HB0 := hideIt (below2 hb0 (HBE.out w0)); clear hb0)
              | (go_at_call 22; refine (HG.out _).mono ?_; rintro e w1 ⟨rfl, hb1⟩; have T1 := hideIt (HB.out w1); have c0 := T1.out.c0; have c1 := T1.out.c1; dsimp only at c0 c1)
              | (at_builtin; refine append_lk _ rfl _ _ 31 36 rfl i0 Tryz.underlying31 hi0 hz0 hz1 hz2 w1.heap.size _ [] rfl (.inl ⟨rfl, _, rfl⟩) ⟨w1.heap.size + 1, 0, none⟩ ⟨kd, tgt⟩ rfl (by
                  intro j u h
                  have := two_new (w := w1.alloc (.cells #[.string tgt, .int .i64 kd, .string nm, .string tx] 61)) ⟨kd, tgt⟩ 36 j u h
                  simpa using this) (by simp) (by simp; omega) ?_; intro v3 w3 hown3 hb3))
            go_ret2
            exact (HT.out _ _).2 ⟨v3, by rw [HL.out] <;> rfl, by rw [HL.out]; exact LRow.of_row (l := [⟨kd, tgt⟩]) hown3, below2 (below2 HB0.out hb1) ((below2 (new_below _ _) (new_below _ _)).trans hb3)⟩
          · have z1 : (z != 0) = true := by simpa using h0
            rw [if_neg h0] at HL
            go_enter Tryz.func11, Tryz.ntmps11
            go_wp2_with (first
              | (go_at_call 9; refine HS.out.mono ?_; rintro e w0 ⟨rfl, hb0⟩; have HB0 := hideIt (below2 hb0 (HBE.out w0)); clear hb0)
              | (go_at_call 22; refine (HG.out _).mono ?_; rintro e w1 ⟨rfl, hb1⟩))
            go_ret2
            exact (HT.out _ _).2 ⟨.slice none 0 0, by rw [HL.out] <;> rfl, by rw [HL.out]; exact LRow.nil _, below2 (below2 HB0.out hb1) (new_below _ _)⟩
        · have q4 : (k == 4) = false := by simpa using k4
          rw [if_neg k4] at HL
          go_enter Tryz.func11, Tryz.ntmps11
          go_wp2_with (first
            | (go_at_call 9; refine HS.out.mono ?_; rintro e w0 ⟨rfl, hb0⟩; have HB0 := hideIt (below2 hb0 (HBE.out w0)); clear hb0))
          go_ret2
          exact (HT.out _ _).2 ⟨_, by rw [HL.out] <;> rfl, by rw [HL.out]; exact LOwn.row (B := 0) (t := 0) (.inl ⟨rfl, _, rfl⟩), HB0.out⟩
  · have z1 : (z != 0) = true := by simpa using h0
    rw [if_neg h0] at HL
    go_enter Tryz.func11, Tryz.ntmps11
    go_wp2_with (first
      | (go_at_call 9; refine HS.out.mono ?_; rintro e w0 ⟨rfl, hb0⟩; have HB0 := hideIt (below2 hb0 (HBE.out w0)); clear hb0))
    go_ret2
    exact (HT.out _ _).2 ⟨.slice none 0 0, by rw [HL.out] <;> rfl, by rw [HL.out]; exact LRow.nil _, HB0.out⟩
end Ob
end Go.Proofs.YtmjffngpaoaflaaGreatDoor
