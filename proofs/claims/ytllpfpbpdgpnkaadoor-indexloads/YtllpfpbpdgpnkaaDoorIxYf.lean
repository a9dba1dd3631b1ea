/- Indexes: their bytes: walked. -/
import Derived.Test.YtllpfpbpdgpnkaaDoorIxYb
import Derived.Test.YtllpfpbpdgpnkaaDoorIxYc
import Derived.Deep.MidRow
import Derived.Deep.RegionLaw
namespace Go.Proofs.YtllpfpbpdgpnkaaDoor.Ix
open Cb Go.RowKit Go.Shelf
theorem step_append_str {P : Program} {ops : Array Oper} {o : Oper} {a : Act} {w : World} {K : Act → World → Prop} {Q : Exit → Act → World → Prop} {E : Prop}
    (hg : o.guard = none) (s x : Operand) (t u : TypeId) (hop : o.op = Op.call { callee := Callee.builtin Builtin.append, args := #[s, x], argTypes := #[t, u] })
    (base : Nat) (e : TypeId) (i : TypeInfo) (h1 : P.underlying t = some (.slice e)) (hu : P.underlying u = some .string) (h2 : P.info? e = some i) (h3 : i.zero = some (.int .u8 0)) (h4 : i.size = 1) (h5 : i.bytes = 1)
    (v : Value) (n : Nat) (xs : List Value) (hs : a.eval s = v) (hown : w.ownsRow base e 1 v n xs) (r : ByteArray) (hx : a.eval x = .string r)
    (b1 : n + r.size ≤ maxLen) (b2 : n + r.size ≤ 140737488355328) (hbase : base ≤ w.heap.size)
    (hK : ∀ v' w', w'.ownsRow base e 1 v' (n + r.size) (xs ++ Lib.strCells r) → w.grownBy w' v.ownBlock → K (a.put o.dst v') w') :
    if Region.wanted o (yielded ops a.tmps) = true then Oper.wp P o a w K Q else E := by
  have hw : Region.wanted o (yielded ops a.tmps) = true := by simp [Region.wanted, hg]
  rw [if_pos hw]
  obtain ⟨v', w', hrun, r1, r2, _⟩ := Lib.run_append_own_string (P := P) w base t u o.type e i h1 hu h2 h3 h4 h5 v n xs hown r b1 b2 hbase
  unfold Oper.wp
  simp [execOp, hop, resolve, invoke, builtin, hs, hx, hrun, Result.andThen]
  exact hK _ _ r1 r2
theorem run_index_arr (A : Array Value) (i : Nat) (v : Int) (w : World) (h : A[i]? = some (.int .i64 v)) (hi : i < 256) : (Instr.index 53 (.agg A) (.int .i64 (i : Int))).run Tryd.prog w = .ok (.int .i64 v) w := by
  have h1 : (0 : Int) ≤ (i : Int) ∧ (i : Int) < ((256 : Nat) : Int) := by omega
  simp [Instr.index, run_underlying Tryd.underlying53, asIntOf, h1, go_sem, h]
  intro h2
  omega
set_option maxHeartbeats 800000 in
set_option maxRecDepth 100000 in
theorem body_any (g : Nat) (pack : ByteArray) (m : List Sp) (w : World) (h : IxAt w g pack m) (hp : pack.size = 32) (hm : Right m) (hn : m.length ≤ 2048) :
    Calls Tryd.prog 26 #[.pointer (some ⟨g, 0, none⟩)] w fun e w' => e = .returned (.string (bs (bodyL pack m))) ∧ Below w.heap.size w w' := by
  obtain ⟨i0, hi0, hz0, hz1, hz2⟩ := info_parts infoB
  obtain ⟨v, h1, h2⟩ := h
  have HX := hideIt (fun (w' : World) (hb : Below w.heap.size w w') => (show w'.heap[g]? = some (.cells (ixA pack m v) 56 (0, 0)) by rw [hb.block g (block_lt h1), h1]))
  have HC0 : Hid (∀ w', Below w.heap.size w w' → w'.cell? ⟨g, 0, none⟩ = some (.string pack)) := hideIt (fun w' hb => cellAt (HX.out w' hb) (ixA_pack _ _ _))
  have HC2 : Hid (∀ w', Below w.heap.size w w' → w'.cell? ⟨g, 257, none⟩ = some v) := hideIt (fun w' hb => cellAt (HX.out w' hb) (ixA_row _ _ _))
  have HC1 : Hid (∀ w', Below w.heap.size w w' → w'.rangeAt g 1 (numsL (cnt m))) := hideIt (fun w' hb j u hu => by
    have hj : j < 256 := by have := (List.getElem?_eq_some_iff.1 hu).1; simpa [numsL] using this
    rw [cellAt (HX.out w' hb) (ixA_num _ _ _ _ hj)]
    have := numsA_at (cnt m) j hj
    rw [numsA, List.getElem?_toArray, hu] at this
    exact this.symm)
  have HR := hideIt (fun (w' : World) (hb : Below w.heap.size w w') => h2.below hb)
  obtain ⟨a, c, rfl, hlc, ⟨hcm, hnn⟩, hrow⟩ := h2
  have c2 := HC2.out w (Below.refl _ _)
  obtain ⟨n, hnl⟩ : ∃ n, m.length = n := ⟨_, rfl⟩
  rw [hnl] at c2 hlc hn
  obtain ⟨k, hk⟩ : ∃ k, 1070 + n * 36 = k := ⟨_, rfl⟩
  obtain ⟨q, hq⟩ : ∃ q, n * 36 = q := ⟨_, rfl⟩
  have k1 : (n : Int) * 36 = (q : Int) := by omega
  have k2 : (1070 : Int) + (q : Int) = (k : Int) := by omega
  have k3 : (q : Int) ≤ 73728 := by omega
  have n1 : (n : Int) ≤ 2048 := by omega
  obtain ⟨W, hmk, hoW, hgW⟩ := run_make_own (P := Tryd.prog) w w.heap.size 60 5 i0 (.int .u8 0) 1 Tryd.underlying60 hi0 hz0 hz1 .i64 .i64 k (by rw [hz2]; omega) (by unfold maxLen; omega) (Nat.le_refl _)
  have hbW : Below w.heap.size w W := (Below.refl _ w).grown hgW (Nat.le_refl _) (fun k hk => by cases hk)
  have HBW := hideIt hbW
  have HOW := hideIt hoW
  have hsW : w.heap.size ≤ W.heap.size := hbW.size
  have d0 := HC0.out W hbW
  have HG1 : Hid (∀ v' w', w'.ownsRow w.heap.size 5 1 v' (0 + 14) ([] ++ Lib.strCells ⟨#[112, 111, 108, 108, 97, 114, 100, 32, 105, 110, 100, 101, 120, 10]⟩) → W.drew.grownBy w' (Value.slice (some ⟨w.heap.size, 0, none⟩) 0 k).ownBlock → Grew w.heap.size w w' v' lineL ∧ w'.cell? ⟨g, 0, none⟩ = some (.string pack)) := hideIt (fun v' w' h1 h2 => by
    have hbb : Below w.heap.size w w' := hbW.drew.grown h2 hsW (fun k hk => by simp [Value.ownBlock] at hk; omega)
    refine ⟨⟨?_, hbb, fun gg cs t fr ht hc => ?_⟩, HC0.out _ hbb⟩
    · rw [str_u8s] at h1
      exact h1
    · rw [hbb.block gg (block_lt hc)]
      exact hc)
  have HG2 : Hid (∀ v1 w1 v' w', Grew w.heap.size w w1 v1 lineL → w'.ownsRow w.heap.size 5 1 v' (14 + pack.size) (u8s lineL ++ Lib.strCells pack) → w1.grownBy w' v1.ownBlock → Grew w.heap.size w w' v' (headL pack)) := hideIt (fun v1 w1 v' w' h1 h2 h3 => by
    rw [← bs_data pack] at h2
    exact h1.trans (Grew.str h1.own h1.below.size (Below.refl _ _) (by rw [bs_size]; rfl) h2 h3))
  have hps : (pack.size : Int) = 32 := by omega
  clear hoW hgW hbW h1 hrow hnn hk hq
  go_enter Tryd.func26, Tryd.ntmps26
  go_wp2
  go_region_held3 (fun X => X.cell? ⟨g, 0, none⟩ = some (.string pack)) (first | exact d0 | assumption | exact HC0.out _ G2.out.below | go_keep) (first
    | (refine step_append_str (by rfl) (.tmp 16) _ 60 9 (by rfl) w.heap.size 5 i0 Tryd.underlying60 Tryd.underlying9 hi0 hz0 hz1 hz2 _ 0 [] (by rfl) HOW.out _ (by rfl) (by decide) (by decide) hsW ?_; intro v1 w1 ho1 hg1; obtain ⟨hG1, d1⟩ := HG1.out v1 w1 ho1 hg1; have G1 := hideIt hG1; have hs1 := hG1.below.size; clear ho1 hg1 hG1)
    | (refine step_append_str (by rfl) (.tmp 17) (.tmp 21) 60 9 (by rfl) w.heap.size 5 i0 Tryd.underlying60 Tryd.underlying9 hi0 hz0 hz1 hz2 _ 14 (u8s lineL) (by rfl) G1.out.own pack (by rfl) (by unfold maxLen; omega) (by omega) hs1 ?_; intro v2 w2 ho2 hg2; have G2 := hideIt (HG2.out _ _ _ _ G1.out ho2 hg2); clear ho2 hg2))
  have hAs : (numsL (cnt m)).toArray.size = 256 := numsA_size (cnt m)
  have hAt := numsA_at (cnt m)
  unfold numsA at hAt
  have HLM := hideIt (HC1.out _ G2.out.below)
  have HIN := hideIt (infoNS (cnt m))
  unfold numsA at HIN
  have HCN : Hid (∀ i, cnt m i ≤ 2048) := hideIt (fun i => by have := cnt_le m i; omega)
  have HNX := hideIt (countsL_next m)
  have HCL := hideIt (countsL_len m)
  have HHL := hideIt (headL_len hp)
  go_wp2_with (first | (refine wpList_load_mid rfl 53 _ rfl g 1 rfl (numsL (cnt m)) _ HLM.out Tryd.underlying53 rfl HIN.out ?_))
  generalize (numsL (cnt m)).toArray = A at hAs hAt
  go_loopw [3, 27] (fun t3 t27 wr => ∃ i : Nat, i ≤ 256 ∧ t27 = .int .i64 (i : Int) ∧ Grew w.heap.size w wr t3 (headL pack ++ countsL m i)) (fun _ t27 _ => 256 - (intOf t27).toNat)
  case atStart => exact ⟨0, by omega, rfl, by simpa [countsL] using G2.out⟩
  case round =>
    obtain ⟨i, hi, rfl, hg⟩ := hrel
    by_cases hlt : i < 256
    · have i1 : (i : Int) < 256 := by omega
      have i2 : decide ((i : Int) < 256) = true := decide_eq_true i1
      have hai := hAt i hlt
      have hri := run_index_arr A i (cnt m i) wr hai hlt
      have hM : (headL pack ++ countsL m i).length ≤ 2000 := by rw [List.length_append, HHL.out, HCL.out]; omega
      have hcn := HCN.out i
      have HAP := hideIt (appnum_any w.heap.size (cnt m i) u3 (headL pack ++ countsL m i) wr hg.own hg.below.size (by omega) (by omega))
      have HNI : Hid (headL pack ++ countsL m (i + 1) = headL pack ++ countsL m i ++ fourL (cnt m i)) := hideIt (by rw [HNX.out, List.append_assoc])
      have HG := hideIt hg
      clear hai hg hM
      generalize cnt m i = kk at HAP hri HNI hcn
      go_wp2_with (first | (go_at_call 41; refine HAP.out.mono ?_; rintro e w1 ⟨v', rfl, hG⟩; have G3 := hideIt hG; clear hG))
      go_roundw
      case rel => exact ⟨i + 1, by omega, by go_num, by rw [HNI.out]; exact HG.out.trans G3.out⟩
      case measure => simp [intOf]; omega
    · have i2 : decide ((i : Int) < 256) = false := decide_eq_false (by omega)
      have hg : Grew w.heap.size w wr u3 (headL pack ++ countsL m 256) := by rw [show i = 256 by omega] at hg; exact hg
      have HG := hideIt hg
      have c5 := HC2.out wr hg.below
      rw [hnl] at c5
      have HSN := hideIt (spotsL_next m)
      have HBL : Hid (∀ i, (headL pack ++ countsL m 256 ++ spotsL (m.take i)).length ≤ 100000) := hideIt (fun i => by
        have h1 : (m.take i).length ≤ 2048 := by simp; omega
        have h2 := spotsL_len (m := m.take i) (fun x hx => hm x (List.mem_of_mem_take hx))
        rw [List.length_append, List.length_append, HHL.out, HCL.out, h2]
        omega)
      have HBE : Hid (headL pack ++ countsL m 256 ++ spotsL (m.take n) = bodyL pack m) := hideIt (by rw [← hnl, List.take_length]; rfl)
      have HWX := hideIt (fun (i : Nat) (x : Sp) (hx : m[i]? = some x) => wrong_size (hm x (List.mem_of_getElem? hx)))
      have HN := hideIt hnl
      clear hg hAt hAs hnl
      go_wp2
      go_loopw [3, 7, 39] (fun t3 _ t39 wr => ∃ i : Nat, i ≤ n ∧ t39 = .int .i64 (i : Int) ∧ Grew w.heap.size w wr t3 (headL pack ++ countsL m 256 ++ spotsL (m.take i))) (fun _ _ t39 _ => n - (intOf t39).toNat)
      case atStart => exact ⟨0, by omega, rfl, by simpa [spotsL] using HG.out⟩
      case round =>
        obtain ⟨i, hi, rfl, hg⟩ := hrel
        generalize hM : headL pack ++ countsL m 256 ++ spotsL (m.take i) = M at hg
        by_cases hlt2 : i < n
        · have i1 : (i : Int) < (n : Int) := by omega
          have i2 : decide ((i : Int) < (n : Int)) = true := decide_eq_true i1
          obtain ⟨x, hxi⟩ : ∃ x, m[i]? = some x := ⟨m[i]'(by rw [HN.out]; exact hlt2), by simp⟩
          obtain ⟨av, cv, hav, hle, hcm2, hrw⟩ := HR.out wr hg.below
          cases hav
          obtain ⟨b, o, rfl, hcells⟩ := hrw (by rw [HN.out]; omega)
          obtain ⟨c0, c1⟩ := hcells.2 i x hxi
          obtain ⟨s1, s2, s3⟩ := HWX.out i x hxi
          obtain ⟨pn, hpn⟩ : ∃ pn : Nat, x.pl = (pn : Int) := ⟨x.pl.toNat, by omega⟩
          have hMl : M.length ≤ 100000 := by rw [← hM]; exact HBL.out i
          have HSX : Hid (headL pack ++ countsL m 256 ++ spotsL (m.take (i + 1)) = M ++ x.d.data.toList ++ fourL pn) := hideIt (by
            rw [HSN.out i x hxi, ← List.append_assoc, hM, spotL, hpn, Int.toNat_natCast, List.append_assoc])
          rw [hpn] at c1
          have pn1 : (pn : Int) ≤ 4194304 := by omega
          generalize x.d = D at c0 HSX s1
          obtain ⟨V, hV⟩ : ∃ V, wr.alloc (.cells #[.string D, .int .i64 (pn : Int)] 38) = V := ⟨_, rfl⟩
          have hVX : V.heap[wr.heap.size]? = some (.cells #[.string D, .int .i64 (pn : Int)] 38 (0, 0)) := by rw [← hV]; exact alloc_at rfl
          have HVB : Hid (Below wr.heap.size wr V) := hideIt (by rw [← hV]; exact (Below.refl _ _).alloc (Nat.le_refl _) _)
          have HVO : Hid (V.drew.ownsRow w.heap.size 5 1 u3 M.length (u8s M)) := hideIt (by rw [← hV]; exact (hg.own.alloc _).drew)
          have v0 : V.drew.cell? ⟨wr.heap.size, 0, none⟩ = some (.string D) := cellAt (w := V.drew) hVX rfl
          have v1' : V.drew.cell? ⟨wr.heap.size, 1, none⟩ = some (.int .i64 (pn : Int)) := cellAt (w := V.drew) hVX rfl
          have hsV : w.heap.size ≤ V.drew.heap.size := Nat.le_trans hg.below.size HVB.out.size
          have HGA : Hid (∀ v' w', w'.ownsRow w.heap.size 5 1 v' (M.length + D.size) (u8s M ++ Lib.strCells D) → V.drew.grownBy w' u3.ownBlock → Grew w.heap.size w w' v' (M ++ D.data.toList) ∧ w'.heap[wr.heap.size]? = some (.cells #[.string D, .int .i64 (pn : Int)] 38 (0, 0))) := hideIt (fun v' w' h1 h2 => by
            rw [← bs_data D] at h1
            have hGV : Grew w.heap.size w V.drew u3 M := ⟨HVO.out, hg.below.trans (HVB.out.mono hg.below.size).drew, fun gg cs t fr ht hc => by
              have := hg.keep gg cs t fr ht hc
              rw [show V.drew.heap = V.heap from rfl, HVB.out.block gg (block_lt this)]
              exact this⟩
            have hG := Grew.str HVO.out hsV (Below.refl _ _) (by rw [bs_size, size_list]) h1 h2
            rw [bs_data] at h1
            exact ⟨hGV.trans hG, hG.keep _ _ _ _ (by decide) hVX⟩)
          have HAP := hideIt (fun v' w' (hG : Grew w.heap.size w w' v' (M ++ D.data.toList)) => appnum_any w.heap.size pn v' (M ++ D.data.toList) w' hG.own hG.below.size (by omega) (by rw [List.length_append, size_list]; omega))
          have HG := hideIt hg
          clear hxi hcells hrw hcm2 hle hpn s2 s3 hM hVX hg
          have sD : (D.size : Int) = 32 := by omega
          go_wp2
          go_region_held3 (fun X => X.cell? ⟨wr.heap.size, 0, none⟩ = some (.string D) ∧ X.cell? ⟨wr.heap.size, 1, none⟩ = some (.int .i64 (pn : Int))) (first | exact ⟨v0, v1'⟩ | assumption | exact A2 | exact A1 | go_keep) (first
            | (refine step_append_str (by rfl) (.tmp 43) (.tmp 45) 60 9 (by rfl) w.heap.size 5 i0 Tryd.underlying60 Tryd.underlying9 hi0 hz0 hz1 hz2 _ M.length (u8s M) (by rfl) HVO.out D (by rfl) (by unfold maxLen; omega) (by omega) hsV ?_; intro v5 w5 ho5 hg5; obtain ⟨hG5, hX5⟩ := HGA.out v5 w5 ho5 hg5; have A1 := And.intro (cellAt (i := 0) hX5 rfl) (cellAt (i := 1) hX5 rfl); have G5 := hideIt hG5; have X5 := hideIt hX5; clear ho5 hg5 hG5 hX5)
            | (go_at_call 41; refine (HAP.out _ _ G5.out).mono ?_; rintro e w6 ⟨v6, rfl, hG6⟩; have A2 := And.intro (cellAt (i := 0) (hG6.keep _ _ _ _ (by decide) X5.out) rfl) (cellAt (i := 1) (hG6.keep _ _ _ _ (by decide) X5.out) rfl); have G6 := hideIt (G5.out.trans hG6); clear hG6))
          all_goals go_wp2
          all_goals go_roundw
          case rel => exact ⟨i + 1, by omega, by go_num, by rw [HSX.out]; exact G6.out⟩
          case measure => simp [intOf]; omega
        · have i2 : decide ((i : Int) < (n : Int)) = false := decide_eq_false (by omega)
          obtain rfl : i = n := by omega
          rw [HBE.out] at hM
          subst hM
          have HR1 := hideIt (run_own hg.own)
          have HB := hideIt hg.below
          obtain ⟨Z, hZ⟩ : ∃ Z, bs (bodyL pack m) = Z := ⟨_, rfl⟩
          rw [hZ] at HR1
          have HZ := hideIt hZ
          have hr1 := HR1.out
          clear hg hZ
          go_wp2
          go_ret
          exact ⟨by rw [HZ.out]; rfl, HB.out⟩
set_option maxHeartbeats 400000 in
set_option maxRecDepth 100000 in
theorem encode_any (g : Nat) (pack : ByteArray) (m : List Sp) (w : World) (hK : Sa.KAt w) (h : IxAt w g pack m) (hp : pack.size = 32) (hm : Right m) (hn : m.length ≤ 2048) :
    Calls Tryd.prog 12 #[.pointer (some ⟨g, 0, none⟩)] w fun e w' => e = .returned (.string (bs (encL pack m))) ∧ Below w.heap.size w w' := by
  have HB := hideIt (body_any g pack m w h hp hm hn)
  have hl := bodyL_len hp hm
  have HS := hideIt (fun w' (hb : Below w.heap.size w w') => Sa.of_any (bs (bodyL pack m)) w' (Sa.K_below hb (Sa.K_pos hK) hK) (by rw [bs_size]; omega))
  rw [bs_list, show Sa.Sha.sha (bodyL pack m) = bs (shaL (bodyL pack m)) from (bs_data _).symm] at HS
  have hap := bs_append (bodyL pack m) (shaL (bodyL pack m))
  have HE : Hid (encL pack m = bodyL pack m ++ shaL (bodyL pack m)) := hideIt rfl
  have h1 : (bs (bodyL pack m)).size ≤ 1000000 := by rw [bs_size]; omega
  have h2 : (bs (shaL (bodyL pack m))).size = 32 := by rw [bs_size, shaL_len]
  obtain ⟨Z, hZ⟩ : ∃ Z, bs (encL pack m) = Z := ⟨_, rfl⟩
  rw [hZ]
  rw [← HE.out, hZ] at hap
  generalize bs (bodyL pack m) = X at HB HS hap h1
  generalize bs (shaL (bodyL pack m)) = Y at HS hap h2
  clear hZ HE hl h hK
  go_enter Tryd.func12, Tryd.ntmps12
  go_wp2_with (first | (go_at_call 26; refine HB.out.mono ?_; rintro e w1 ⟨rfl, hb1⟩; have B1 := hideIt hb1; clear hb1) | (go_at_call 27; refine (HS.out _ B1.out).mono ?_; rintro e w2 ⟨rfl, hb2⟩; have B2 := hideIt (below2 B1.out hb2); clear hb2))
  go_ret
  exact ⟨rfl, B2.out⟩
end Go.Proofs.YtllpfpbpdgpnkaaDoor.Ix
