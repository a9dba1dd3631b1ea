/- The document's Open, walked. -/
import Derived.Test.YtmjffngpaoaflaaGreatDoorPl
import Derived.Test.YtmjffngpaoaflaaGreatDoorOo
import Derived.Test.YtmjffngpaoaflaaGreatDoorCbAll
import Derived.Deep.RegionHeld3
namespace Go.Proofs.YtmjffngpaoaflaaGreatDoor
namespace Ob
open Go.RowKit Go.Shelf
/-- The kind that the first words tell. -/
def knb (L : List UInt8) (i : Nat) : Int := if kn L < (i : Int) then kn L else 0
theorem kn_range (L : List UInt8) : 0 ≤ kn L ∧ kn L ≤ 4 := by
  unfold kn
  repeat' split
  all_goals omega
theorem kw_kn (L : List UInt8) (i : Int) (h : 1 ≤ i ∧ i ≤ 4) : kw i = L ↔ kn L = i := by
  constructor
  · rintro rfl
    exact kn_kw i h
  · intro hk
    subst hk
    unfold kn at h ⊢
    split
    · subst_vars; rfl
    split
    · subst_vars; rfl
    split
    · subst_vars; rfl
    split
    · subst_vars; rfl
    · simp_all
theorem opn_cut (L h body wd d : List UInt8) (h1 : cutc 0 L = some (h, body)) (h2 : cutc 32 h = some (wd, d)) : opn L = if kn wd = 0 then (0, [], 70) else opn3 (kn wd) body (Cb.Dd.und d) := by
  unfold opn
  rw [h1]
  simp only
  rw [h2]
theorem opn3_some (kk : Int) (body : List UInt8) (n : Nat) : opV (opn3 kk body (some n)) = if 262144 < n then .tuple #[.int .i64 0, .string ⟨#[]⟩, .int .i64 3] else if body.length < n then .tuple #[.int .i64 0, .string ⟨#[]⟩, .int .i64 4] else if n < body.length then .tuple #[.int .i64 0, .string ⟨#[]⟩, .int .i64 5] else .tuple #[.int .i64 kk, .string (bs body), .int .i64 0] := by
  show opV (if 262144 < n then (0, [], 3) else if body.length < n then (0, [], 4) else if n < body.length then (0, [], 5) else (kk, body, 0)) = _
  split
  · rfl
  split
  · rfl
  split <;> rfl
set_option maxHeartbeats 800000 in
set_option maxRecDepth 100000 in
theorem refopen_any (L : List UInt8) (hL : L.length ≤ 1000000) (w : World) :
    Calls Tryz.prog 9 #[.string (bs L)] w fun e w' => e = .returned (opV (opn L)) ∧ Below w.heap.size w w' := by
  have HI := hideIt (fun w => refindex_any 0 L hL w)
  have t0 : ((0 : UInt8).toNat : Int) = 0 := rfl
  have t32 : ((32 : UInt8).toNat : Int) = 32 := rfl
  have be : bs [] = (⟨#[]⟩ : ByteArray) := rfl
  rw [t0] at HI
  cases h1 : cutc 0 L with
  | none =>
    have e1 : ixc 0 L = -1 := by unfold ixc; rw [h1]
    have e2 : opn L = (0, [], 6) := by unfold opn; rw [h1]
    rw [e1] at HI
    rw [e2]
    unfold opV
    simp only
    rw [be]
    clear t0 t32 e1 e2 h1
    go_enter Tryz.func9, Tryz.ntmps9
    go_wp2_with (go_at_call 26; refine (HI.out _).mono ?_; rintro e w1 ⟨rfl, h⟩; subst w1)
    (try simp only [Exit.inBlock, Exit.then])
    refine bodyPost_ret (v := .tuple #[.int .i64 0, .string ⟨#[]⟩, .int .i64 6]) ?_ rfl ⟨rfl, Below.refl _ _⟩
    rw [results_tmp3 rfl]
    go_simp
  | some p =>
    obtain ⟨h, body⟩ := p
    have e1 : ixc 0 L = (h.length : Nat) := by unfold ixc; rw [h1]
    obtain ⟨hLe, -⟩ := cutc_some 0 L h body h1
    have hll : L.length = h.length + 1 + body.length := by rw [hLe]; simp; omega
    have x1 : (bs L).extract 0 h.length = bs h := by
      rw [bs_extract, hLe]
      simp
    have HI2 := hideIt (fun w => refindex_any 32 h (by omega) w)
    rw [t32, ← x1] at HI2
    rw [e1] at HI
    have sz : (bs L).size = L.length := bs_size _
    cases h2 : cutc 32 h with
    | none =>
      have e2 : ixc 32 h = -1 := by unfold ixc; rw [h2]
      have e3 : opn L = (0, [], 6) := by unfold opn; rw [h1]; simp only; rw [h2]
      rw [e2] at HI2
      rw [e3]
      unfold opV
      simp only
      rw [be]
      obtain ⟨S, hS⟩ : ∃ S, bs L = S := ⟨_, rfl⟩
      obtain ⟨z, hz⟩ : ∃ z, h.length = z := ⟨_, rfl⟩
      rw [hS] at HI HI2 sz ⊢
      rw [hz] at HI HI2 hll
      have a1 : (z : Int) ≤ (S.size : Int) := by omega
      have a2 : (0 : Int) ≤ (z : Int) := by omega
      have a3 : decide ((z : Int) < 0) = false := decide_eq_false (by omega)
      clear t0 t32 e1 e2 e3 h1 h2 hS hz hLe x1
      go_enter Tryz.func9, Tryz.ntmps9
      go_wp2_with (first | (go_at_call_of 26 (Value.int .u8 0); refine (HI.out _).mono ?_; rintro e w1 ⟨rfl, h⟩; subst w1) | (go_at_call_of 26 (Value.int .u8 32); refine (HI2.out _).mono ?_; rintro e w2 ⟨rfl, h⟩; subst w2))
      (try simp only [Exit.inBlock, Exit.then])
      refine bodyPost_ret (v := .tuple #[.int .i64 0, .string ⟨#[]⟩, .int .i64 6]) ?_ rfl ⟨rfl, ?_⟩
      · rw [results_tmp3 rfl]
        go_simp
      · exact Below.refl _ _
    | some q =>
      obtain ⟨wd, d⟩ := q
      have e2 : ixc 32 h = (wd.length : Nat) := by unfold ixc; rw [h2]
      obtain ⟨hhe, -⟩ := cutc_some 32 h wd d h2
      have hhl : h.length = wd.length + 1 + d.length := by rw [hhe]; simp; omega
      have x2 : (bs L).extract 0 wd.length = bs wd := by
        rw [bs_extract, hLe, hhe]
        simp
      have x3 : (bs L).extract (wd.length + 1) h.length = bs d := by
        rw [bs_extract, hLe]
        congr 1
        rw [List.drop_append_of_le_length (by omega), List.take_append_of_le_length (by simp)]
        have hd : h.drop (wd.length + 1) = d := by rw [hhe]; simp
        rw [hd]
        apply List.take_of_length_le
        omega
      have x4 : (bs L).extract (h.length + 1) L.length = bs body := by
        rw [bs_extract]
        congr 1
        have : L.drop (h.length + 1) = body := by rw [hLe]; simp
        rw [this]
        apply List.take_of_length_le
        omega
      have HU := hideIt (fun w => Cb.refundec_any (bs d) w (by rw [bs_size]; omega))
      rw [bs_list, ← x3] at HU
      rw [e2] at HI2
      have HK := hideIt (fun (i : Nat) (hi : 1 ≤ i ∧ i ≤ 4) w => refkind_any (i : Int) (by omega) w)
      have HQ : Hid (∀ i : Nat, 1 ≤ i ∧ i ≤ 4 → ((bs (kw (i : Int))).toList == ((bs L).extract 0 wd.length).toList) = decide (kn wd = (i : Int))) := hideIt (fun i hi => by
        rw [x2, bsl_eq]
        exact decide_eq_decide.2 (kw_kn wd i (by omega)))
      rw [opn_cut L h body wd d h1 h2]
      have kr := kn_range wd
      obtain ⟨kk, hkk⟩ : ∃ kk, kn wd = kk := ⟨_, rfl⟩
      rw [hkk] at HQ kr ⊢
      obtain ⟨z, hz⟩ : ∃ z, h.length = z := ⟨_, rfl⟩
      obtain ⟨b, hb⟩ : ∃ b, wd.length = b := ⟨_, rfl⟩
      rw [hz] at HI HI2 hll hhl x3 x4 HU
      rw [hb] at HI2 hhl x3 HU HQ
      obtain ⟨S, hS⟩ : ∃ S, bs L = S := ⟨_, rfl⟩
      rw [hS] at HI HI2 sz x3 x4 HU HQ ⊢
      have a1 : (z : Int) ≤ (S.size : Int) := by omega
      have a2 : (0 : Int) ≤ (z : Int) := by omega
      have a3 : decide ((z : Int) < 0) = false := decide_eq_false (by omega)
      have a4 : (b : Int) ≤ (S.size : Int) := by omega
      have a5 : (0 : Int) ≤ (b : Int) := by omega
      have a6 : decide ((b : Int) < 0) = false := decide_eq_false (by omega)
      obtain ⟨b1, hb1⟩ : ∃ b1, b + 1 = b1 := ⟨_, rfl⟩
      obtain ⟨z1, hz1⟩ : ∃ z1, z + 1 = z1 := ⟨_, rfl⟩
      have bI : (b : Int) + 1 = (b1 : Int) := by omega
      have zI : (z : Int) + 1 = (z1 : Int) := by omega
      have a7 : (0 : Int) ≤ (b1 : Int) := by omega
      have a8 : (b1 : Int) ≤ (z : Int) := by omega
      have a9 : (0 : Int) ≤ (z1 : Int) := by omega
      have a10 : (z1 : Int) ≤ (S.size : Int) := by omega
      rw [hb1] at HU
      rw [← sz, hz1] at x4
      have bsz : (bs body).size = body.length := bs_size _
      have hbl : body.length ≤ 1000000 := by omega
      have q1 : (S.size : Int) ≤ 1000000 := by omega
      clear hb1 hz1 hhl hll sz
      obtain ⟨ov, hov⟩ : ∃ ov, opV (if kk = 0 then (0, [], 70) else opn3 kk body (Cb.Dd.und d)) = ov := ⟨_, rfl⟩
      rw [hov]
      have HOV := hideIt hov
      have HX4 := hideIt x4
      clear hov t0 t32 e1 e2 h1 h2 hS hz hb hLe hhe x1 x2 x3 x4 hkk
      go_enter Tryz.func9, Tryz.ntmps9
      go_wp2_with (first | (go_at_call_of 26 (Value.int .u8 0); refine (HI.out _).mono ?_; rintro e w1 ⟨rfl, h⟩; subst w1) | (go_at_call_of 26 (Value.int .u8 32); refine (HI2.out _).mono ?_; rintro e w2 ⟨rfl, h⟩; subst w2))
      go_loopw [7, 8] (fun k t wr => ∃ i : Nat, 1 ≤ i ∧ i ≤ 5 ∧ t = .int .i64 i ∧ k = .int .i64 (if kk < (i : Int) then kk else 0) ∧ Below w.heap.size w wr) (fun _ t _ => 5 - (intOf t).toNat)
      case atStart => exact ⟨1, by omega, by omega, rfl, by congr 1; split <;> omega, Below.refl _ _⟩
      case round =>
        obtain ⟨i, hi1, hi5, rfl, rfl, hbw⟩ := hrel
        have HB := hideIt hbw
        clear hbw
        by_cases hlt : i < 5
        · have i1 : decide ((i : Int) < 5) = true := decide_eq_true (by omega)
          have HKI := hideIt (HK.out i (by omega))
          have hq := HQ.out i (by omega)
          obtain ⟨kv, hkv⟩ : ∃ kv, (if kk < (i : Int) then kk else 0) = kv := ⟨_, rfl⟩
          rw [hkv]
          by_cases hki : kk = (i : Int)
          · rw [decide_eq_true hki] at hq
            go_wp2_with fail
            go_region_held3 (fun w' => Below w.heap.size w w') (first | (exact HB.out.drew) | assumption | (exact below2 (by assumption) hb5))
              (first | (go_at_call 27; refine (HKI.out _).mono ?_; rintro e w5 ⟨rfl, hb5⟩))
            go_wp2
            go_roundw
            case rel =>
              refine ⟨i + 1, by omega, by omega, by go_num, ?_, by assumption⟩
              congr 1
              rw [if_pos (by omega)]; omega
            case measure => simp [intOf]; omega
          · rw [decide_eq_false hki] at hq
            go_wp2_with fail
            go_region_held3 (fun w' => Below w.heap.size w w') (first | (exact HB.out.drew) | assumption | (exact below2 (by assumption) hb5))
              (first | (go_at_call 27; refine (HKI.out _).mono ?_; rintro e w5 ⟨rfl, hb5⟩))
            go_wp2
            go_roundw
            case rel =>
              refine ⟨i + 1, by omega, by omega, by go_num, ?_, by assumption⟩
              congr 1
              rw [← hkv]; split <;> split <;> omega
            case measure => simp [intOf]; omega
        · obtain rfl : i = 5 := by omega
          have i1 : decide (((5 : Nat) : Int) < 5) = false := by decide
          have k5 : (if kk < ((5 : Nat) : Int) then kk else 0) = kk := if_pos (by omega)
          rw [k5]
          by_cases hk0 : kk = 0
          · subst hk0
            go_wp2
            (try simp only [Exit.inBlock, Exit.then])
            refine bodyPost_ret (v := .tuple #[.int .i64 0, .string ⟨#[]⟩, .int .i64 70]) ?_ rfl ⟨by rw [← HOV.out]; rfl, HB.out⟩
            rw [results_tmp3 rfl]
            go_simp
          · have k0 : (kk == 0) = false := by simpa using hk0
            cases hu : Cb.Dd.und d with
            | none =>
              rw [hu] at HU
              unfold Cb.udV at HU
              simp only at HU
              go_wp2_with (go_at_call 28; refine (HU.out _).mono ?_; rintro e w6 ⟨rfl, h⟩; subst w6)
              (try simp only [Exit.inBlock, Exit.then])
              refine bodyPost_ret (v := .tuple #[.int .i64 0, .string ⟨#[]⟩, .int .i64 6]) ?_ rfl ⟨by rw [← HOV.out, if_neg hk0, hu]; rfl, HB.out⟩
              rw [results_tmp3 rfl]
              go_simp
            | some n =>
              rw [hu] at HU
              unfold Cb.udV at HU
              simp only at HU
              have hn := und_lt hu
              obtain ⟨m, hm⟩ : ∃ m, body.length = m := ⟨_, rfl⟩
              obtain ⟨B, hB⟩ : ∃ B, bs body = B := ⟨_, rfl⟩
              have hx4 := HX4.out
              rw [hB] at bsz hx4
              rw [hm] at bsz hbl
              have HO := hideIt (opn3_some kk body n)
              rw [hm, hB] at HO
              by_cases c1 : 262144 < n
              · have d1 : decide ((n : Int) > 262144) = true := decide_eq_true (by omega)
                have d1' : decide ((262144 : Int) < (n : Int)) = true := decide_eq_true (by omega)
                go_wp2_with (go_at_call 28; refine (HU.out _).mono ?_; rintro e w6 ⟨rfl, h⟩; subst w6)
                (try simp only [Exit.inBlock, Exit.then])
                refine bodyPost_ret (v := .tuple #[.int .i64 0, .string ⟨#[]⟩, .int .i64 3]) ?_ rfl ⟨by rw [← HOV.out, if_neg hk0, hu, HO.out, if_pos c1], HB.out⟩
                rw [results_tmp3 rfl]
                go_simp
              · have d1 : decide ((n : Int) > 262144) = false := decide_eq_false (by omega)
                have d1' : decide ((262144 : Int) < (n : Int)) = false := decide_eq_false (by omega)
                have n1 : (n : Int) ≤ 262144 := by omega
                have n2 : (0 : Int) ≤ (n : Int) := by omega
                have m2 : (B.size : Int) = (m : Int) := by omega
                have m3 : (m : Int) ≤ 1000000 := by omega
                by_cases c2 : m < n
                · have d2 : decide ((m : Int) < (n : Int)) = true := decide_eq_true (by omega)
                  go_wp2_with (go_at_call 28; refine (HU.out _).mono ?_; rintro e w6 ⟨rfl, h⟩; subst w6)
                  (try simp only [Exit.inBlock, Exit.then])
                  refine bodyPost_ret (v := .tuple #[.int .i64 0, .string ⟨#[]⟩, .int .i64 4]) ?_ rfl ⟨by rw [← HOV.out, if_neg hk0, hu, HO.out, if_neg c1, if_pos c2], ?_⟩
                  · rw [results_tmp3 rfl]
                    go_simp
                  · first | exact HB.out | exact HB.out.drew | exact below2 HB.out (below_drewN _ _)
                · have d2 : decide ((m : Int) < (n : Int)) = false := decide_eq_false (by omega)
                  by_cases c3 : n < m
                  · have d3 : decide ((n : Int) < (m : Int)) = true := decide_eq_true (by omega)
                    go_wp2_with (go_at_call 28; refine (HU.out _).mono ?_; rintro e w6 ⟨rfl, h⟩; subst w6)
                    (try simp only [Exit.inBlock, Exit.then])
                    refine bodyPost_ret (v := .tuple #[.int .i64 0, .string ⟨#[]⟩, .int .i64 5]) ?_ rfl ⟨by rw [← HOV.out, if_neg hk0, hu, HO.out, if_neg c1, if_neg c2, if_pos c3], ?_⟩
                    · rw [results_tmp3 rfl]
                      go_simp
                    · first | exact HB.out | exact HB.out.drew | exact below2 HB.out (below_drewN _ _)
                  · have d3 : decide ((n : Int) < (m : Int)) = false := decide_eq_false (by omega)
                    go_wp2_with (go_at_call 28; refine (HU.out _).mono ?_; rintro e w6 ⟨rfl, h⟩; subst w6)
                    (try simp only [Exit.inBlock, Exit.then])
                    refine bodyPost_ret (v := .tuple #[.int .i64 kk, .string B, .int .i64 0]) ?_ rfl ⟨by rw [← HOV.out, if_neg hk0, hu, HO.out, if_neg c1, if_neg c2, if_neg c3], ?_⟩
                    · rw [results_tmp3 rfl]
                      go_simp
                    · first | exact HB.out | exact HB.out.drew | exact below2 HB.out (below_drewN _ _)
end Ob
end Go.Proofs.YtmjffngpaoaflaaGreatDoor
