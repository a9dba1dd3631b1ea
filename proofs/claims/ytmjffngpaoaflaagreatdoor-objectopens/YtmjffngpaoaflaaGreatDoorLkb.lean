/- The links of a tag, a commit, a tree, walked. -/
import Derived.Test.YtmjffngpaoaflaaGreatDoorLka
namespace Go.Proofs.YtmjffngpaoaflaaGreatDoor
namespace Ob
open Go.RowKit Go.Shelf
set_option maxHeartbeats 3200000 in
set_option maxRecDepth 100000 in
theorem tagLinks_any (L : List UInt8) (w : World) (hL : L.length ≤ 1000000) (hm : MaxAt w) :
    Calls Tryz.prog 31 #[.string (bs L)] w fun e w' => LkTo w (tagLk L) e w' := by
  have HT : Hid (∀ e w', LkTo w (tagLk L) e w' ↔ ∃ v, e = .returned (.tuple #[v, .int .i64 (tagLk L).2]) ∧ LRow w' v (tagLk L).1 ∧ Below w.heap.size w w') := hideIt (fun _ _ => Iff.rfl)
  have HG := hideIt (getTag_any L w hL hm)
  have HL : Hid (tagLk L = if (gT L).2 = 0 then ([⟨(gT L).1.kd, (gT L).1.tgt⟩], 0) else ([], (gT L).2)) := rfl
  obtain ⟨t, ht⟩ : ∃ t, (gT L).1 = t := ⟨_, rfl⟩
  obtain ⟨z, hz⟩ : ∃ z, (gT L).2 = z := ⟨_, rfl⟩
  rw [ht, hz] at HG HL
  obtain ⟨tgt, kd, nm, tx⟩ := t
  unfold tgV at HG
  simp only at HG HL
  have HB : Hid (∀ (w1 : World), TBox (w1.alloc (.cells #[.string tgt, .int .i64 kd, .string nm, .string tx] 58)) w1.heap.size 58 ⟨tgt, kd, nm, tx⟩) := hideIt (fun w1 => TBox.new w1 58 ⟨tgt, kd, nm, tx⟩)
  obtain ⟨S, hS⟩ : ∃ S, bs L = S := ⟨_, rfl⟩
  rw [hS] at HG ⊢
  clear ht hz hm hL hS
  by_cases h0 : z = 0
  · subst h0
    rw [if_pos rfl] at HL
    go_enter Tryz.func31, Tryz.ntmps31
    go_wp2_with (first | (go_at_call 21; refine HG.out.mono ?_; rintro e w1 ⟨rfl, hb1⟩; have T1 := hideIt (HB.out w1); have c0 := T1.out.c0; have c1 := T1.out.c1; dsimp only at c0 c1))
    go_ret2
    refine (HT.out _ _).2 ⟨.slice (some ⟨w1.heap.size + 1, 0, none⟩) 1 1, by rw [HL.out] <;> rfl, ?_, below2 (below2 hb1 (new_below _ _)) (new_below _ _)⟩
    rw [HL.out]
    have := own_one (w1.alloc (.cells #[.string tgt, .int .i64 kd, .string nm, .string tx] 58)) 0 37 ⟨kd, tgt⟩ (Nat.zero_le _)
    exact LRow.of_row (l := [⟨kd, tgt⟩]) (by simpa using this)
  · have z1 : (z != 0) = true := by simpa using h0
    rw [if_neg h0] at HL
    go_enter Tryz.func31, Tryz.ntmps31
    go_wp2_with (first | (go_at_call 21; refine HG.out.mono ?_; rintro e w1 ⟨rfl, hb1⟩))
    go_ret2
    exact (HT.out _ _).2 ⟨.slice none 0 0, by rw [HL.out] <;> rfl, by rw [HL.out]; exact LRow.nil _, below2 hb1 (new_below _ _)⟩
set_option maxHeartbeats 3200000 in
set_option maxRecDepth 100000 in
theorem commitLinks_any (L : List UInt8) (w : World) (hL : L.length ≤ 1000000) (hk : Ok w) :
    Calls Tryz.prog 30 #[.string (bs L)] w fun e w' => LkTo w (comLk L) e w' := by
  obtain ⟨i0, hi0, hz0, hz1, hz2⟩ := info_parts infoL
  have HT : Hid (∀ e w', LkTo w (comLk L) e w' ↔ ∃ v, e = .returned (.tuple #[v, .int .i64 (comLk L).2]) ∧ LRow w' v (comLk L).1 ∧ Below w.heap.size w w') := hideIt (fun _ _ => Iff.rfl)
  have HL : Hid (comLk L = if gCz L = 0 then (⟨2, (gCm L).tr⟩ :: (gCm L).ps.map (fun p => ⟨3, p⟩), 0) else ([], gCz L)) := rfl
  have HG := hideIt (getCommit_any L w hL hk)
  have HLN : Hid (gCz L = 0 → (gCm L).ps.length ≤ 4) := hideIt (fun h => by
    unfold gCz at h
    split at h
    · exact (comE_ok h).1
    · omega)
  obtain ⟨S, hS⟩ : ∃ S, bs L = S := ⟨_, rfl⟩
  rw [hS] at HG ⊢
  obtain ⟨z, hz⟩ : ∃ z, gCz L = z := ⟨_, rfl⟩
  have HZ := hideIt hz
  rw [hz] at HL HLN
  clear hk hL hS
  by_cases h0 : z = 0
  · subst h0
    rw [if_pos rfl] at HL
    obtain ⟨d, hd⟩ : ∃ d, gCm L = d := ⟨_, rfl⟩
    have HG2 : Hid (Calls Tryz.prog 17 #[.string S] w fun e w' => ∃ a k, e = .returned (.tuple #[.agg #[.string d.tr, .slice a d.ps.length k, .string d.au, .int .u64 (d.tm : Int), .string d.tx], .int .i64 0]) ∧ SRow w' (.slice a d.ps.length k) d.ps ∧ Below w.heap.size w w') := hideIt (HG.out.mono (by
      rintro e w' ⟨c, rfl, h1, h2, h3, h4⟩
      have hc := h2 HZ.out
      rw [hd] at hc
      obtain ⟨tr, pv, ps, au, tm, tx⟩ := c
      simp only [Cm.mk.injEq, true_and] at hc
      obtain ⟨rfl, rfl, rfl, rfl, rfl⟩ := hc
      have hr := h1
      obtain ⟨a, k, e, _⟩ := h1
      simp only at e hr
      subst e
      exact ⟨a, k, by rw [HZ.out]; rfl, hr, h4⟩))
    rw [hd] at HL HLN
    have hlen := HLN.out rfl
    obtain ⟨tr, pv, ps, au, tm, tx⟩ := d
    simp only at HG2 HL hlen
    obtain ⟨n, hn⟩ : ∃ n, ps.length = n := ⟨_, rfl⟩
    have HN := hideIt hn
    rw [hn] at HG2 hlen
    clear hd hz HG HLN hn HZ
    have nI : (n : Int) ≤ 4 := by omega
    go_enter Tryz.func30, Tryz.ntmps30
    go_wp2_with (first | (go_at_call 17; refine HG2.out.mono ?_; rintro e w1 ⟨a1, k1, rfl, hr1, hb1⟩; have C1 := hideIt (CBox.new w1 42 ⟨tr, .slice a1 n k1, ps, au, tm, tx⟩); have c0 := C1.out.c0; have c1 := C1.out.c1; have N1 := hideIt (C1.out.below (new_below _ (.cells #[.int .i64 2, .string tr] 37))); have d1 := N1.out.c1; dsimp only [cmO] at c0 c1 d1))
    obtain ⟨a', k', he, hlc, hcm, hcells⟩ := hr1
    simp only [Value.slice.injEq] at he
    obtain ⟨rfl, hne, rfl⟩ := he
    have HC := hideIt hcells
    have hm1 := hcm.1
    unfold maxLen at hm1
    have HB1 := hideIt hb1
    have HS0 : Hid (LOwn ((w1.alloc (.cells #[.string tr, .slice a1 n k1, .string au, .int .u64 (tm : Int), .string tx] 42)).alloc (.cells #[.int .i64 2, .string tr] 37)) w1.heap.size 37 (.slice (some ⟨w1.heap.size + 1, 0, none⟩) 1 1) [⟨2, tr⟩]) := hideIt (.inr (by
      have := own_one (w1.alloc (.cells #[.string tr, .slice a1 n k1, .string au, .int .u64 (tm : Int), .string tx] 42)) w1.heap.size 37 ⟨2, tr⟩ (by simp)
      simpa using this))
    have HS1 : Hid (Below w1.heap.size w1 ((w1.alloc (.cells #[.string tr, .slice a1 n k1, .string au, .int .u64 (tm : Int), .string tx] 42)).alloc (.cells #[.int .i64 2, .string tr] 37))) := hideIt (below2 (new_below _ _) (new_below _ _))
    clear hb1 hcells hcm hne
    go_loopw [6, 24] (fun v t wr => ∃ i : Nat, i ≤ n ∧ t = .int .i64 i ∧ LOwn wr w1.heap.size 37 v (⟨2, tr⟩ :: (ps.take i).map (fun p => ⟨3, p⟩)) ∧ Below w1.heap.size w1 wr) (fun _ t _ => n - (intOf t).toNat)
    case atStart => exact ⟨0, by omega, rfl, HS0.out, HS1.out⟩
    case round =>
      obtain ⟨i, hi, rfl, hown, hbl⟩ := hrel
      have HO := hideIt hown
      have HBL := hideIt hbl
      clear hown hbl HS0 HS1 C1 N1 c0 c1 d1
      by_cases hlt : i < n
      · have i1 : decide ((i : Int) < (n : Int)) = true := decide_eq_true (by omega)
        have i2 : (i : Int) < (n : Int) := by omega
        obtain ⟨b, o, hab, hcl⟩ := HC.out (by rw [HN.out]; omega)
        subst hab
        obtain ⟨y, hyi⟩ : ∃ y, ps[i]? = some y := ⟨ps[i]'(by rw [HN.out]; exact hlt), by simp⟩
        have cy := (hcl.below HBL.out).2 i y hyi
        have HTK : Hid (ps.take (i + 1) = ps.take i ++ [y]) := hideIt (by rw [List.take_add_one, hyi]; rfl)
        have hsz : w1.heap.size ≤ wr.heap.size := HBL.out.size
        clear hcl hyi
        go_wp2_with (first | (at_builtin; refine append_lk _ rfl _ _ 28 37 rfl i0 Tryz.underlying28 hi0 hz0 hz1 hz2 w1.heap.size _ (⟨2, tr⟩ :: (ps.take i).map (fun p => ⟨3, p⟩)) rfl (HO.out.below (new_below _ _)) ⟨wr.heap.size, 0, none⟩ ⟨3, y⟩ rfl (two_new (w := wr) ⟨3, y⟩ 37) (by simp; omega) (by simp; omega) ?_; intro v3 w3 hown3 hb3))
        go_roundw
        case rel =>
          refine ⟨i + 1, by omega, by go_num, .inr ?_, (HBL.out.alloc hsz _).trans hb3⟩
          rw [HTK.out]
          simpa using hown3
        case measure => simp [intOf]; omega
      · obtain rfl : i = n := by omega
        have i1 : decide ((i : Int) < (i : Int)) = false := decide_eq_false (by omega)
        go_wp2
        go_ret2
        refine (HT.out _ _).2 ⟨_, by rw [HL.out] <;> rfl, ?_, below2 HB1.out HBL.out⟩
        rw [HL.out]
        have := HO.out.row
        rw [← HN.out, List.take_length] at this
        exact this
  · have z1 : (z != 0) = true := by simpa using h0
    rw [if_neg h0] at HL
    have HG2 : Hid (Calls Tryz.prog 17 #[.string S] w fun e w' => e = .returned (.tuple #[.agg #[.string ⟨#[]⟩, .slice none 0 0, .string ⟨#[]⟩, .int .u64 0, .string ⟨#[]⟩], .int .i64 z]) ∧ Below w.heap.size w w') := hideIt (HG.out.mono (by
      rintro e w' ⟨c, rfl, h1, h2, h3, h4⟩
      rw [h3 (by rw [HZ.out]; exact h0), HZ.out]
      exact ⟨rfl, h4⟩))
    clear HG hz HZ
    go_enter Tryz.func30, Tryz.ntmps30
    go_wp2_with (first | (go_at_call 17; refine HG2.out.mono ?_; rintro e w1 ⟨rfl, hb1⟩))
    go_ret2
    exact (HT.out _ _).2 ⟨.slice none 0 0, by rw [HL.out] <;> rfl, by rw [HL.out]; exact LRow.nil _, below2 hb1 (new_below _ _)⟩
set_option maxHeartbeats 3200000 in
set_option maxRecDepth 100000 in
theorem treeLinks_any (L : List UInt8) (w : World) (hL : L.length ≤ 1000000) (hm : MaxAt w) :
    Calls Tryz.prog 29 #[.string (bs L)] w fun e w' => LkTo w (treeLk L) e w' := by
  obtain ⟨i0, hi0, hz0, hz1, hz2⟩ := info_parts infoL
  have HT : Hid (∀ e w', LkTo w (treeLk L) e w' ↔ ∃ v, e = .returned (.tuple #[v, .int .i64 (dec L).1]) ∧ LRow w' v ((dec L).2.map enLk) ∧ Below w.heap.size w w') := hideIt (fun _ _ => Iff.rfl)
  have HD : Hid (Calls Tryz.prog 61 #[.string (bs L)] w fun e w' => ∃ a k, e = .returned (.tuple #[.slice a (dec L).2.length k, .int .i64 (dec L).1]) ∧ k ≤ maxLen ∧ (0 < (dec L).2.length → ∃ b o, a = some ⟨b, o, none⟩ ∧ ECells w' b o (dec L).2) ∧ (dec L).2.length ≤ k ∧ Below w.heap.size w w') := hideIt ((decode_any L hL w (by obtain ⟨m, h⟩ := hm; exact ⟨m, h⟩)).mono (by
    rintro e w' ⟨v, rfl, ⟨a, k, rfl, h2, h3, h4⟩, h5⟩
    exact ⟨a, k, rfl, h3.1, h4, h2, h5⟩))
  have hn := dec_len L
  have HE := hideIt (dec_err L)
  obtain ⟨es, hes⟩ : ∃ es, (dec L).2 = es := ⟨_, rfl⟩
  obtain ⟨z, hz⟩ : ∃ z, (dec L).1 = z := ⟨_, rfl⟩
  rw [hes, hz] at HT HD HE
  rw [hes] at hn
  obtain ⟨S, hS⟩ : ∃ S, bs L = S := ⟨_, rfl⟩
  rw [hS] at HD ⊢
  obtain ⟨n, hnn⟩ : ∃ n, es.length = n := ⟨_, rfl⟩
  have HN := hideIt hnn
  rw [hnn] at HD hn
  clear hes hz hS hnn hm hL
  by_cases h0 : z = 0
  · subst h0
    have nI : (n : Int) ≤ 256 := by omega
    go_enter Tryz.func29, Tryz.ntmps29
    go_wp2_with (first | (go_at_call 61; refine HD.out.mono ?_; rintro e w1 ⟨a1, k1, rfl, hm1, hcells, hlc, hb1⟩; have HC := hideIt hcells; have HB1 := hideIt hb1; clear hcells hb1; unfold maxLen at hm1))
    go_loopw [6, 20] (fun v t wr => ∃ i : Nat, i ≤ n ∧ t = .int .i64 i ∧ LOwn wr w1.heap.size 37 v ((es.take i).map enLk) ∧ Below w1.heap.size w1 wr) (fun _ t _ => n - (intOf t).toNat)
    case atStart => exact ⟨0, by omega, rfl, .inl ⟨rfl, none, rfl⟩, Below.refl _ _⟩
    case round =>
      obtain ⟨i, hi, rfl, hown, hbl⟩ := hrel
      have HO := hideIt hown
      have HBL := hideIt hbl
      clear hown hbl
      by_cases hlt : i < n
      · have i1 : decide ((i : Int) < (n : Int)) = true := decide_eq_true (by omega)
        have i2 : (i : Int) < (n : Int) := by omega
        obtain ⟨b, o, hab, hcl⟩ := HC.out (by omega)
        subst hab
        obtain ⟨x, hxi⟩ : ∃ x, es[i]? = some x := ⟨es[i]'(by rw [HN.out]; exact hlt), by simp⟩
        obtain ⟨y0, y1, y2⟩ := (hcl.below HBL.out).2 i x hxi
        have HTK : Hid ((es.take (i + 1)).map enLk = (es.take i).map enLk ++ [enLk x]) := hideIt (by rw [List.take_add_one, hxi]; simp)
        have hsz : w1.heap.size ≤ wr.heap.size := HBL.out.size
        have HEN : Hid (enLk x = ⟨if x.md = 3 then 2 else 1, x.ids⟩) := rfl
        obtain ⟨nm, md, ids⟩ := x
        simp only at y0 y1 y2 HEN
        obtain ⟨e0, e1, e2⟩ := three_cells (w := wr.alloc (.cells #[.string nm, .int .i64 md, .string ids] 95)) (x := ⟨nm, md, ids⟩) (Cb.alloc_at rfl)
        simp only at e0 e1 e2
        have HTN : Hid (∀ (k : Int) (j : Nat) (u : Value), [Value.int .i64 k, .string ids][j]? = some u → ((wr.alloc (.cells #[.string nm, .int .i64 md, .string ids] 95)).alloc (.cells #[.int .i64 k, .string ids] 37)).cell? ((⟨wr.heap.size + 1, 0, none⟩ : Addr).add j) = some u) := hideIt (fun k j u h => by
          have := two_new (w := wr.alloc (.cells #[.string nm, .int .i64 md, .string ids] 95)) ⟨k, ids⟩ 37 j u h
          simpa using this)
        clear hcl hxi
        by_cases hmd : md = 3
        · subst hmd
          rw [if_pos rfl] at HEN
          rw [HEN.out] at HTK
          go_wp2_with (first | (at_builtin; refine append_lk _ rfl _ _ 28 37 rfl i0 Tryz.underlying28 hi0 hz0 hz1 hz2 w1.heap.size _ ((es.take i).map enLk) rfl ((HO.out.below (new_below _ _)).below (new_below _ _)) ⟨wr.heap.size + 1, 0, none⟩ ⟨2, ids⟩ rfl (HTN.out 2) (by simp; omega) (by simp; omega) ?_; intro v3 w3 hown3 hb3))
          go_roundw
          case rel =>
            refine ⟨i + 1, by omega, by go_num, .inr ?_, ((HBL.out.alloc hsz _).alloc (by simp; omega) _).trans hb3⟩
            rw [HTK.out]
            simpa using hown3
          case measure => simp [intOf]; omega
        · have m1 : (md == 3) = false := by simpa using hmd
          rw [if_neg hmd] at HEN
          rw [HEN.out] at HTK
          go_wp2_with (first | (at_builtin; refine append_lk _ rfl _ _ 28 37 rfl i0 Tryz.underlying28 hi0 hz0 hz1 hz2 w1.heap.size _ ((es.take i).map enLk) rfl ((HO.out.below (new_below _ _)).below (new_below _ _)) ⟨wr.heap.size + 1, 0, none⟩ ⟨1, ids⟩ rfl (HTN.out 1) (by simp; omega) (by simp; omega) ?_; intro v3 w3 hown3 hb3))
          go_roundw
          case rel =>
            refine ⟨i + 1, by omega, by go_num, .inr ?_, ((HBL.out.alloc hsz _).alloc (by simp; omega) _).trans hb3⟩
            rw [HTK.out]
            simpa using hown3
          case measure => simp [intOf]; omega
      · obtain rfl : i = n := by omega
        have i1 : decide ((i : Int) < (i : Int)) = false := decide_eq_false (by omega)
        go_wp2
        go_ret2
        refine (HT.out _ _).2 ⟨_, rfl, ?_, below2 HB1.out HBL.out⟩
        have := HO.out.row
        rw [← HN.out, List.take_length] at this
        exact this
  · have z1 : (z != 0) = true := by simpa using h0
    obtain rfl := HE.out h0
    obtain rfl : n = 0 := HN.out.symm
    go_enter Tryz.func29, Tryz.ntmps29
    go_wp2_with (first | (go_at_call 61; refine HD.out.mono ?_; rintro e w1 ⟨a1, k1, rfl, hm1, hcells, hlc, hb1⟩; have HB1 := hideIt hb1; clear hcells hb1))
    go_ret2
    exact (HT.out _ _).2 ⟨.slice none 0 0, rfl, LRow.nil _, HB1.out⟩
end Ob
end Go.Proofs.YtmjffngpaoaflaaGreatDoor
