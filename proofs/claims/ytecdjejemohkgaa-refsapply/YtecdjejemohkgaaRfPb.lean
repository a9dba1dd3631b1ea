/- Refs: Apply, walked, whatever a row is moved by. -/
import Derived.Test.YtecdjejemohkgaaRfPa
import Derived.Test.YtecdjejemohkgaaRfRm
namespace Go.Proofs.Ytecdjejemohkgaa.Rf
open Cb Go.RowKit Go.Shelf
theorem own_block_lt {w : World} {B n k g : Nat} {t : TypeId} {v : Value} {xs : List Value} (h : w.ownsRow B t k v n xs) (hv : v.ownBlock = some g) : g < w.heap.size := by
  obtain ⟨cur, hc⟩ := own_type h hv
  exact block_lt hc
theorem URow.take {w : World} {a : Option Addr} {n c : Nat} {l : List Up} (h : URow w (.slice a n c) l) (k : Nat) (hk : k ≤ l.length) : URow w (.slice a k c) (l.take k) := by
  obtain ⟨h0, a', c', e, h1, h2, h3⟩ := h
  cases e
  have hl : (l.take k).length = k := by rw [List.length_take]; omega
  refine ⟨upsV_len _, a, c, by rw [hl], by omega, h2, fun hp => ?_⟩
  obtain ⟨b, o, e, hc⟩ := h3 (by omega)
  refine ⟨b, o, e, hc.1, fun i u hu => hc.2 i u ?_⟩
  have e : upsV l = upsV (l.take k) ++ upsV (l.drop k) := by simp only [upsV, ← List.flatMap_append, List.take_append_drop]
  rw [e, List.getElem?_append_left (List.getElem?_eq_some_iff.1 hu).1]
  exact hu
theorem app_end {w X : World} {hd : ByteArray} {a : Int × List Rf} {E : Int} {L : List Rf} {v : Value} (hq : a = (E, L)) (hb : Below w.heap.size w X) (hr : X.ownsRow w.heap.size 59 2 v L.length (rfsV L)) (hlo : ∀ k, v.ownBlock = some k → w.heap.size + 2 ≤ k) :
    AppTo w hd a (.returned (.tuple #[.agg #[.string hd, v], .int .i64 E])) ((X.setCell ⟨w.heap.size + 1, 0, none⟩ (.string hd)).setCell ⟨w.heap.size + 1, 1, none⟩ v) := by
  subst hq
  obtain ⟨p, q⟩ := put_res hb hr hlo (.string hd) v
  exact ⟨v, rfl, q, p⟩
set_option maxHeartbeats 6400000 in
set_option maxRecDepth 100000 in
theorem apply_gen (hd : ByteArray) (v0 : Value) (l : List Rf) (va0 : Value) (us : List Up) (k : Nat) (lb : Array Value) (f : ByteArray → ByteArray → Bool) (w : World) (h : RRow w v0 l) (hl : l.length ≤ 100000) (hu : URow w va0 us) (hul : us.length ≤ 100000) (hf : Fwd w k lb f)
    (hz : hd.size ≤ 281474976710656) (hzs : ∀ (i : Nat) (x : Rf), l[i]? = some x → x.nm.size ≤ 281474976710656 ∧ x.id.size ≤ 281474976710656)
    (K : Nat → List Rf → Prop) (hK0 : chkR hd l = 0 → K 0 l) (hK : ∀ i m u, us[i]? = some u → K i m → upd hd m (us.take i) u f = 0 → MvC m u ∧ K (i + 1) (movR m u))
    (hKz : ∀ i m, K i m → m.length ≤ 100000 ∧ ∀ (j : Nat) (x : Rf), m[j]? = some x → x.id.size ≤ 281474976710656) :
    Calls Try.prog 8 #[.agg #[.string hd, v0], va0, .func (.func k) #[] lb] w fun e w' => AppTo w hd (appP f hd l us) e w' := by
  have HTO : Hid (∀ e w', AppTo w hd (appP f hd l us) e w' ↔ ∃ v, e = .returned (.tuple #[.agg #[.string hd, v], .int .i64 (appP f hd l us).1]) ∧ w'.ownsRow w.heap.size 59 2 v (appP f hd l us).2.length (rfsV (appP f hd l us).2) ∧ Below w.heap.size w w') := hideIt (fun _ _ => Iff.rfl)
  have HP : Hid (appP f hd l us = if 256 < us.length then (3, l) else if ¬ chkR hd l = 0 then (chkR hd l, l)
  else if ¬ (appR f hd l [] us).1 = 0 then ((appR f hd l [] us).1, l) else if 256 < (appR f hd l [] us).2.length then (3, l) else (0, (appR f hd l [] us).2)) := hideIt rfl
  obtain ⟨W, hW⟩ : ∃ W, (w.alloc (.cells #[.string hd, v0] 24)).alloc (.cells #[.string ⟨#[]⟩, .slice none 0 0] 24) = W := ⟨_, rfl⟩
  have hsz : W.heap.size = w.heap.size + 2 := by rw [← hW]; simp
  have hb : Below w.heap.size w W := by rw [← hW]; exact ((Below.refl _ w).alloc (Nat.le_refl _) _).alloc (by simp) _
  have hbx : W.heap[w.heap.size]? = some (.cells #[.string hd, v0] 24 (0, 0)) := by
    rw [← hW, Below.heap_alloc _ _ _ (by simp)]; exact alloc_at rfl
  have hrs : W.heap[w.heap.size + 1]? = some (.cells #[.string ⟨#[]⟩, .slice none 0 0] 24 (0, 0)) := by rw [← hW]; exact alloc_at (by simp)
  have HF : Hid (∀ w', Below W.heap.size W w' → w'.heap[w.heap.size]? = some (.cells #[.string hd, v0] 24 (0, 0)) ∧ w'.heap[w.heap.size + 1]? = some (.cells #[.string ⟨#[]⟩, .slice none 0 0] 24 (0, 0))) := hideIt (fun w' hb' => ⟨(hb'.block _ (by omega)).trans hbx, (hb'.block _ (by omega)).trans hrs⟩)
  have HB := hideIt hb
  have HW := hideIt hW
  have HSZ := hideIt hsz
  have HCP := hideIt (fun (w' : World) (hb' : Below W.heap.size W w') => copyOf_any hd v0 l w' (h.below (below_step hb (Nat.le_refl _) hb')) hl hz hzs)
  have HCK := hideIt (fun (w' : World) (hb' : Below W.heap.size W w') => check_any hd v0 l w' (h.below (below_step hb (Nat.le_refl _) hb')) hl)
  have HCU := hideIt (fun (w' : World) (hb' : Below W.heap.size W w') => cloneU_any va0 us w' (hu.below (below_step hb (Nat.le_refl _) hb')) hul)
  have HFW := hideIt (fun (w' : World) (hb' : Below w.heap.size w w') => hf.below hb')
  obtain ⟨n, hn⟩ : ∃ n, us.length = n := ⟨_, rfl⟩
  have HN := hideIt hn
  obtain ⟨_, a0, c0, hva, _, _, _⟩ := hu
  subst hva
  rw [hn] at hul HP HCU ⊢
  have nI : (n : Int) ≤ 100000 := by omega
  clear hW hb hbx hrs hn h hzs hz
  go_enter Try.func8, Try.ntmps8
  by_cases h256 : 256 < n
  · have d1 : decide ((256 : Int) < (n : Int)) = true := decide_eq_true (by omega)
    have HQ : Hid (appP f hd l us = (3, l)) := hideIt (by rw [HP.out, if_pos h256])
    have hx := HF.out W (Below.refl _ _)
    have x0 := cellAt (i := 0) hx.1 rfl
    have x1 := cellAt (i := 1) hx.1 rfl
    go_wp2_with (first
      | (go_at_call 23; rw [HW.out]; refine (HCP.out W (Below.refl _ _)).mono ?_; rintro e w1 ⟨vw, rfl, ho1, hb1⟩; obtain ⟨sa, sc, hv⟩ := own_slice ho1; subst hv; have H1 := hideIt hb1; have O1 := hideIt ho1; have hr := (HF.out _ (hb1.alloc hb1.size (.cells #[.string hd, .slice sa l.length sc] 24))).2; have q0 := cellAt (i := 0) hr rfl; have q1 := cellAt (i := 1) hr rfl; have z0 := frz hr 0; have z1 := frz hr 1; clear hb1 ho1 hr))
    (try simp only [Exit.inBlock, Exit.then])
    refine bodyPost_ret (v := .tuple #[.agg #[.string hd, .slice sa l.length sc], .int .i64 3]) ?_ rfl (app_end HQ.out ((below_step HB.out (Nat.le_refl _) H1.out).alloc (by have := H1.out.size; have := HSZ.out; omega) _) (own_less (own_below O1.out (new_below _ _)) (by have := HSZ.out; omega)) (fun k hk => by have := row_ge O1.out k hk; have := HSZ.out; omega))
    rw [results_c2 rfl]
    go_simp
  · have d1 : decide ((256 : Int) < (n : Int)) = false := decide_eq_false (by omega)
    have hp2 := HP.out
    rw [if_neg h256] at hp2
    have HP2 := hideIt hp2
    obtain ⟨z, hz⟩ : ∃ z, chkR hd l = z := ⟨_, rfl⟩
    rw [hz] at HCK hp2
    have HZ := hideIt hz
    have hx := HF.out W (Below.refl _ _)
    have x0 := cellAt (i := 0) hx.1 rfl
    have x1 := cellAt (i := 1) hx.1 rfl
    clear hz hx HP
    by_cases h0 : z = 0
    · subst h0
      rw [if_neg (by simp)] at hp2
      have HP3 := hideIt hp2
      have HK0 := hideIt (hK0 HZ.out)
      have HK := hideIt hK
      have HKZ := hideIt hKz
      clear hp2 hK0 hK hKz
      go_wp2_with (first
        | (go_at_call 23; rw [HW.out]; refine (HCP.out W (Below.refl _ _)).mono ?_; rintro e w1 ⟨vw, rfl, ho1, hb1⟩; obtain ⟨sa, sc, hv⟩ := own_slice ho1; subst hv; have H1 := hideIt hb1; have O1 := hideIt ho1; have hx1 := (HF.out _ (hb1.alloc hb1.size (.cells #[.string hd, .slice sa l.length sc] 24))).1; have x0 := cellAt (i := 0) hx1 rfl; have x1 := cellAt (i := 1) hx1 rfl; have X1 := hideIt (hb1.alloc hb1.size (.cells #[.string hd, .slice sa l.length sc] 24)); clear hb1 ho1 hx1)
        | (go_at_call 16; refine (HCK.out _ X1.out).mono ?_; rintro e w2 ⟨rfl, hb2⟩; have B2 := hideIt hb2; have X2 := hideIt (below_step X1.out (Nat.le_refl _) hb2); have hx2 := HF.out _ X2.out; have y0 := cellAt (i := 0) hx2.1 rfl; have y1 := cellAt (i := 1) hx2.1 rfl; clear hb2 hx2)
        | (go_at_call 23; refine (HCP.out _ X2.out).mono ?_; rintro e w3 ⟨vn, rfl, ho3, hb3⟩; obtain ⟨na, nc, hv⟩ := own_slice ho3; subst hv; have B3 := hideIt hb3; have O3 := hideIt ho3; have X3 := hideIt (below_step X2.out (Nat.le_refl _) hb3); clear hb3 ho3)
        | (go_at_call 24; refine (HCU.out _ X3.out).mono ?_; rintro e w4 ⟨va, rfl, ho4, hb4⟩; obtain ⟨aa, ca, hv⟩ := own_slice ho4; rw [HN.out] at hv; subst hv; have B4 := hideIt hb4; have O4 := hideIt ho4; have X4 := hideIt (below_step X3.out (Nat.le_refl _) hb4); clear hb4 ho4))
      have HM0 : Hid (AM w w1.heap.size w4.heap.size hd (.slice sa l.length sc) l (.slice aa n ca) us l (.slice na l.length nc) (w4.alloc (.cells #[.string hd, .slice na l.length nc] 24))) := hideIt (by
        have s1 := H1.out.size
        have s2 := B2.out.size
        have s3 := B3.out.size
        have s4 := B4.out.size
        have s0 := HSZ.out
        have e1 : (w1.alloc (.cells #[.string hd, .slice sa l.length sc] 24)).heap.size = w1.heap.size + 1 := by simp
        have b14 : Below w1.heap.size w1 (w4.alloc (.cells #[.string hd, .slice na l.length nc] 24)) := (below_step (below_step (below_step (new_below w1 _) (by simp) B2.out) (by omega) B3.out) (by omega) B4.out).alloc (by omega) _
        have bx4 : Below (w1.alloc (.cells #[.string hd, .slice sa l.length sc] 24)).heap.size (w1.alloc (.cells #[.string hd, .slice sa l.length sc] 24)) (w4.alloc (.cells #[.string hd, .slice na l.length nc] 24)) := (below_step (below_step B2.out (Nat.le_refl _) B3.out) (Nat.le_refl _) B4.out).alloc (by omega) _
        have b3n : Below w3.heap.size w3 (w4.alloc (.cells #[.string hd, .slice na l.length nc] 24)) := B4.out.alloc (by omega) _
        refine ⟨(below_step HB.out (Nat.le_refl _) X4.out).alloc (by omega) _, by omega, by omega, by simp, (HF.out _ (X4.out.alloc (by omega) _)).2, (bx4.block _ (by omega)).trans (alloc_at rfl), own_less (own_below O1.out b14) (by omega), fun k hk => ⟨own_block_lt O1.out hk, by have := row_ge O1.out k hk; omega⟩, alloc_at rfl, own_less (own_below O3.out b3n) (by omega), ?_⟩
        exact own_less (own_below O4.out (new_below _ _)) (by omega))
      obtain ⟨b8, hb8⟩ : ∃ b, w1.heap.size = b := ⟨_, rfl⟩
      obtain ⟨b10, hb10⟩ : ∃ b, w4.heap.size = b := ⟨_, rfl⟩
      rw [hb8, hb10] at HM0
      rw [hb8, hb10]
      clear hb8 hb10 x0 x1 y0 y1
      go_loopw [33] (fun t wr => ∃ (i : Nat) (m : List Rf) (v : Value), i ≤ n ∧ t = .int .i64 (i : Int) ∧ AM w b8 b10 hd (.slice sa l.length sc) l (.slice aa n ca) us m v wr ∧ K i m ∧ appR f hd l [] us = appR f hd m (us.take i) (us.drop i)) (fun t _ => n - (intOf t).toNat)
      case atStart => exact ⟨0, l, _, by omega, rfl, HM0.out, HK0.out, rfl⟩
      case round =>
        obtain ⟨i, m, v, hi, rfl, am, hKi, hap⟩ := hrel
        have HAM := hideIt am
        have HKI := hideIt hKi
        have HAP := hideIt hap
        obtain ⟨va2, vc2, hv⟩ := own_slice am.nrow
        subst hv
        clear am hKi hap
        by_cases hlt : i < n
        · have i0 : (0 : Int) ≤ (i : Int) := by omega
          have i1 : (i : Int) < (n : Int) := by omega
          have i2 : decide ((i : Int) < (n : Int)) = true := decide_eq_true i1
          obtain ⟨⟨un, uo, uw, uf⟩, hui⟩ : ∃ u, us[i]? = some u := ⟨us[i]'(by rw [HN.out]; exact hlt), by simp⟩
          have HUI := hideIt hui
          have HUR : Hid (URow wr (.slice aa n ca) us) := hideIt (VRow.of_row HAM.out.arow)
          obtain ⟨b, o, c, e, hnc, hbl, hcc⟩ := HUR.out.cells (by rw [HN.out]; omega)
          rw [HN.out] at e hnc
          cases e
          obtain ⟨c0, c1, c2, c3⟩ := hcc i _ hui wr (Below.refl _ _)
          have hic : i ≤ ca := by omega
          have hicI : (i : Int) ≤ (ca : Int) := by omega
          obtain ⟨ml, hml⟩ : ∃ ml, m.length = ml := ⟨_, rfl⟩
          have HML := hideIt hml
          rw [hml] at HAM
          obtain ⟨E, hE⟩ : ∃ E, upd hd m (us.take i) ⟨un, uo, uw, uf⟩ f = E := ⟨_, rfl⟩
          have hXb : Below wr.heap.size wr (wr.alloc (.cells #[.string un, .string uo, .string uw, .bool uf] 34)) := new_below wr _
          have HXD : Hid (Below wr.heap.size wr (wr.alloc (.cells #[.string un, .string uo, .string uw, .bool uf] 34)).drew) := hideIt (hXb.trans ⟨rfl, rfl, rfl, Nat.le_refl _, fun _ _ => rfl⟩)
          have HCU2 : Hid (∀ w', Below wr.heap.size wr w' → Calls Try.prog 25 #[.agg #[.string hd, .slice va2 ml vc2], .slice (some ⟨b, o, none⟩) i ca, .agg #[.string un, .string uo, .string uw, .bool uf], .func (.func k) #[] lb] w' fun e w'' => e = .returned (.int .i64 E) ∧ Below w'.heap.size w' w'') := hideIt (fun w' hb' => by
            rw [← hE]
            exact checkUpdate_any hd (.slice va2 ml vc2) (.slice (some ⟨b, o, none⟩) i ca) m (us.take i) ⟨un, uo, uw, uf⟩ k lb f w' (VRow.of_row (own_below HAM.out.nrow hb')) (HKZ.out i m HKI.out).1 ((HUR.out.below hb').take i (by rw [HN.out]; omega)) (by rw [List.length_take, HN.out]; omega) (HFW.out w' (below_step HAM.out.bel (Nat.le_refl _) hb')) (HKZ.out i m HKI.out).2)
          have u0 := cellAt (i := 0) (HAM.out.below hXb).now rfl
          have u1 := cellAt (i := 1) (HAM.out.below hXb).now rfl
          have HDR : Hid (us.drop i = ⟨un, uo, uw, uf⟩ :: us.drop (i + 1)) := hideIt (by
            obtain ⟨hl', e⟩ := List.getElem?_eq_some_iff.1 hui
            rw [← e]
            exact List.drop_eq_getElem_cons hl')
          have HTK : Hid (us.take (i + 1) = us.take i ++ [⟨un, uo, uw, uf⟩]) := hideIt (by rw [List.take_add_one, hui]; rfl)
          have HBX : Hid (∀ w', Below (wr.alloc (.cells #[.string un, .string uo, .string uw, .bool uf] 34)).drew.heap.size (wr.alloc (.cells #[.string un, .string uo, .string uw, .bool uf] 34)).drew w' → w'.cell? ⟨wr.heap.size, 0, none⟩ = some (.string un) ∧ w'.cell? ⟨wr.heap.size, 1, none⟩ = some (.string uo) ∧ w'.cell? ⟨wr.heap.size, 2, none⟩ = some (.string uw) ∧ w'.cell? ⟨wr.heap.size, 3, none⟩ = some (.bool uf)) := hideIt (fun w' hb' => by
            have hbb : w'.heap[wr.heap.size]? = some (.cells #[.string un, .string uo, .string uw, .bool uf] 34 (0, 0)) := (hb'.block wr.heap.size (by simp [World.drew])).trans (alloc_at (w := wr) rfl)
            exact ⟨cellAt hbb rfl, cellAt hbb rfl, cellAt hbb rfl, cellAt hbb rfl⟩)
          have HEE := hideIt hE
          clear hui hcc hbl hml hE hXb
          by_cases hE0 : E = 0
          · subst hE0
            obtain ⟨hmv, hk1⟩ := HK.out i m _ HUI.out HKI.out HEE.out
            have HMV : Hid (∀ w', w'.ownsRow (b8 + 1) 59 2 (.slice va2 ml vc2) ml (rfsV m) → b8 + 1 ≤ w'.heap.size → Calls Try.prog 26 #[.slice va2 ml vc2, .agg #[.string un, .string uo, .string uw, .bool uf]] w' fun e w'' => InsTo (b8 + 1) w' (.slice va2 ml vc2) (movR m ⟨un, uo, uw, uf⟩) e w'') := hideIt (fun w' h1 h2 => hmv (b8 + 1) _ w' (by rw [HML.out]; exact h1) h2)
            have HK1 := hideIt hk1
            have HAP2 : Hid (appR f hd l [] us = appR f hd (movR m ⟨un, uo, uw, uf⟩) (us.take (i + 1)) (us.drop (i + 1))) := hideIt (by rw [HAP.out, HDR.out, appR, if_pos HEE.out, HTK.out])
            clear hmv hk1
            go_wp2
            go_region_law (first
              | (go_simp; go_at_call 25; refine (HCU2.out _ HXD.out).mono ?_; rintro e w5 ⟨rfl, hb5⟩; have A5 := hideIt (HAM.out.below (below_step HXD.out (Nat.le_refl _) hb5)); obtain ⟨g0, g1, g2, g3⟩ := HBX.out _ hb5; have n1 := cellAt (i := 1) A5.out.now rfl; clear hb5; dsimp only))
            all_goals go_wp2_with (first
              | (go_at_call 26; refine (HMV.out _ (HML.out ▸ A5.out.nrow) (by have := A5.out.l2; have := A5.out.l3; omega)).mono ?_; rintro e w6 ⟨v6, rfl, hr6, hg6⟩; obtain ⟨ga, gc, hv⟩ := own_slice hr6; subst hv; have A6 := hideIt (A5.out.move hg6 hr6); have p1 := A6.out.1.1; have p2 := A6.out.1.2; clear hr6 hg6))
            all_goals go_roundw
            all_goals first
              | exact ⟨i + 1, _, _, by omega, by go_num, A6.out.2, HK1.out, HAP2.out⟩
              | (simp [intOf]; omega)
          · have e2 : (E == 0) = false := by simpa using hE0
            have HQ : Hid (appP f hd l us = (E, l)) := hideIt (by
              have : appR f hd l [] us = (E, m) := by rw [HAP.out, HDR.out, appR, if_neg (by rw [HEE.out]; exact hE0), HEE.out]
              rw [HP3.out, this]; simp only; rw [if_pos hE0])
            go_wp2
            go_region_law (first
              | (go_simp; go_at_call 25; refine (HCU2.out _ HXD.out).mono ?_; rintro e w5 ⟨rfl, hb5⟩; have A5 := hideIt (HAM.out.below (below_step HXD.out (Nat.le_refl _) hb5)); have t0 := cellAt (i := 0) A5.out.was rfl; have t1 := cellAt (i := 1) A5.out.was rfl; have q0 := cellAt (i := 0) A5.out.res rfl; have q1 := cellAt (i := 1) A5.out.res rfl; have z0 := frz A5.out.res 0; have z1 := frz A5.out.res 1; clear hb5; dsimp only))
            all_goals go_wp2
            all_goals (try simp only [Exit.inBlock, Exit.then])
            all_goals refine bodyPost_ret (v := .tuple #[.agg #[.string hd, .slice sa l.length sc], .int .i64 E]) ?_ rfl (app_end HQ.out A5.out.bel A5.out.wrow (fun k hk => (A5.out.wlo k hk).2))
            all_goals rw [results_c2 rfl]
            all_goals go_simp
        · have i2 : decide ((i : Int) < (n : Int)) = false := decide_eq_false (by omega)
          obtain rfl : i = n := by omega
          have HRS : Hid (appR f hd l [] us = (0, m)) := hideIt (by rw [HAP.out, List.drop_of_length_le (by rw [HN.out]; exact Nat.le_refl _)]; rfl)
          obtain ⟨ml, hml⟩ : ∃ ml, m.length = ml := ⟨_, rfl⟩
          have HML := hideIt hml
          rw [hml] at HAM
          have u0 := cellAt (i := 0) HAM.out.now rfl
          have u1 := cellAt (i := 1) HAM.out.now rfl
          have t0 := cellAt (i := 0) HAM.out.was rfl
          have t1 := cellAt (i := 1) HAM.out.was rfl
          have q0 := cellAt (i := 0) HAM.out.res rfl
          have q1 := cellAt (i := 1) HAM.out.res rfl
          have z0 := frz HAM.out.res 0
          have z1 := frz HAM.out.res 1
          by_cases hbig : 256 < ml
          · have d3 : decide ((256 : Int) < (ml : Int)) = true := decide_eq_true (by omega)
            have HQ : Hid (appP f hd l us = (3, l)) := hideIt (by rw [HP3.out, HRS.out]; simp only; rw [if_neg (by simp), if_pos (by rw [HML.out]; exact hbig)])
            go_wp2
            (try simp only [Exit.inBlock, Exit.then])
            refine bodyPost_ret (v := .tuple #[.agg #[.string hd, .slice sa l.length sc], .int .i64 3]) ?_ rfl (app_end HQ.out HAM.out.bel HAM.out.wrow (fun k hk => (HAM.out.wlo k hk).2))
            rw [results_c2 rfl]
            go_simp
          · have d3 : decide ((256 : Int) < (ml : Int)) = false := decide_eq_false (by omega)
            have HQ : Hid (appP f hd l us = (0, m)) := hideIt (by rw [HP3.out, HRS.out]; simp only; rw [if_neg (by simp), if_neg (by rw [HML.out]; exact hbig)])
            go_wp2
            (try simp only [Exit.inBlock, Exit.then])
            refine bodyPost_ret (v := .tuple #[.agg #[.string hd, .slice va2 ml vc2], .int .i64 0]) ?_ rfl (app_end HQ.out HAM.out.bel (own_less HAM.out.nrow (by have := HAM.out.l1; omega)) (fun k hk => by have := row_ge HAM.out.nrow k hk; have := HAM.out.l1; omega))
            rw [results_c2 rfl]
            go_simp
    · have z2 : (z == 0) = false := by simpa using h0
      have HQ : Hid (appP f hd l us = (z, l)) := hideIt (by rw [hp2, if_pos h0])
      clear hp2
      go_wp2_with (first
        | (go_at_call 23; rw [HW.out]; refine (HCP.out W (Below.refl _ _)).mono ?_; rintro e w1 ⟨vw, rfl, ho1, hb1⟩; obtain ⟨sa, sc, hv⟩ := own_slice ho1; subst hv; have H1 := hideIt hb1; have O1 := hideIt ho1; have hx1 := (HF.out _ (hb1.alloc hb1.size (.cells #[.string hd, .slice sa l.length sc] 24))).1; have x0 := cellAt (i := 0) hx1 rfl; have x1 := cellAt (i := 1) hx1 rfl; have X1 := hideIt (hb1.alloc hb1.size (.cells #[.string hd, .slice sa l.length sc] 24)); clear hb1 ho1 hx1)
        | (go_at_call 16; refine (HCK.out _ X1.out).mono ?_; rintro e w2 ⟨rfl, hb2⟩; have X2 := hideIt (below_step X1.out (Nat.le_refl _) hb2); have hr := (HF.out _ X2.out).2; have q0 := cellAt (i := 0) hr rfl; have q1 := cellAt (i := 1) hr rfl; have z0 := frz hr 0; have z1 := frz hr 1; have hb8 := (hb2.block w1.heap.size (by simp)).trans (alloc_at rfl); have t0 := cellAt (i := 0) hb8 rfl; have t1 := cellAt (i := 1) hb8 rfl; have B2 := hideIt hb2; clear hb2 hr hb8))
      (try simp only [Exit.inBlock, Exit.then])
      refine bodyPost_ret (v := .tuple #[.agg #[.string hd, .slice sa l.length sc], .int .i64 z]) ?_ rfl (app_end HQ.out (below_step HB.out (Nat.le_refl _) X2.out) (own_less (own_below O1.out (below_step (new_below w1 _) (by simp) B2.out)) (by have := HSZ.out; omega)) (fun k hk => by have := row_ge O1.out k hk; have := HSZ.out; omega))
      rw [results_c2 rfl]
      go_simp
end Go.Proofs.Ytecdjejemohkgaa.Rf
