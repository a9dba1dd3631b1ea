/- Packs: the sum at the end, and all items: walked. -/
import Derived.Test.YtjiigdjopcegeaaDoorPkKs
namespace Go.Proofs.YtjiigdjopcegeaaDoor.Pk
open Cb Ld Go.RowKit Go.Shelf
/-- Does a text begin with another one? -/
def pre (a p : ByteArray) : Bool := decide (p.size ≤ a.size) && ((a.extract 0 p.size).toList == p.toList)
set_option maxHeartbeats 400000 in
theorem slpre_any (a p : ByteArray) (w : World) :
    Calls Tryd.prog 42 #[.string a, .string p] w fun e w' => e = .returned (.bool (pre a p)) ∧ w' = w := by
  obtain ⟨n, hn⟩ : ∃ n, a.size = n := ⟨_, rfl⟩
  obtain ⟨m, hm⟩ : ∃ m, p.size = m := ⟨_, rfl⟩
  have hn' : (a.size : Int) = (n : Int) := by rw [hn]
  have hm' : (p.size : Int) = (m : Int) := by rw [hm]
  by_cases h : m ≤ n
  · have c1 : (m : Int) ≤ (n : Int) := by omega
    have c2 : decide ((m : Int) ≤ (n : Int)) = true := by simpa using h
    have HP : Hid (pre a p = ((a.extract 0 m).toList == p.toList)) := hideIt (by rw [pre, hm, hn]; simp [h])
    obtain ⟨x, hx⟩ : ∃ x, ((a.extract 0 m).toList == p.toList) = x := ⟨_, rfl⟩
    rw [hx] at HP
    have b0 : (0 : Int) ≤ (m : Int) := by omega
    cases x
    all_goals
      go_enter Tryd.func42, Tryd.ntmps42
      go_wp2
      go_ret
      exact ⟨by rw [HP.out]; try rfl, rfl⟩
  · have c1 : ¬ (m : Int) ≤ (n : Int) := by omega
    have c2 : decide ((m : Int) ≤ (n : Int)) = false := by simp; omega
    have HP : Hid (pre a p = false) := hideIt (by rw [pre, hm, hn]; simp [h])
    go_enter Tryd.func42, Tryd.ntmps42
    go_wp2
    go_ret
    exact ⟨by rw [HP.out]; try rfl, rfl⟩
theorem hasPrefix_any (a p : ByteArray) (w : World) :
    Calls Tryd.prog 24 #[.string a, .string p] w fun e w' => e = .returned (.bool (pre a p)) ∧ w' = w := by
  have H := hideIt (fun w => slpre_any a p w)
  go_enter Tryd.func24, Tryd.ntmps24
  go_wp2_with (first | (go_at_call 42; refine (H.out _).mono ?_; rintro e wx ⟨rfl, hwx⟩; obtain rfl := hwx.symm))
  go_ret
  exact ⟨rfl, rfl⟩
theorem pre_title (S : List UInt8) : pre (bs S) ⟨#[112, 111, 108, 108, 97, 114, 100, 32, 112, 97, 99, 107, 10]⟩ = decide (S.take 13 = titleL) := by
  have e1 : (⟨#[112, 111, 108, 108, 97, 114, 100, 32, 112, 97, 99, 107, 10]⟩ : ByteArray).size = 13 := rfl
  have e2 : (⟨#[112, 111, 108, 108, 97, 114, 100, 32, 112, 97, 99, 107, 10]⟩ : ByteArray).toList = titleL := by rw [ByteArray.toList_eq]; rfl
  rw [pre, e1, e2, take_bs, ByteArray.toList_eq, bs_list, bs_size]
  by_cases h : S.take 13 = titleL
  · have hl : 13 ≤ S.length := by
      have := congrArg List.length h
      rw [List.length_take] at this
      have h2 : titleL.length = 13 := rfl
      omega
    simp [h, hl]
  · rw [decide_eq_false h, Bool.and_eq_false_iff]
    exact .inr (beq_eq_false_iff_ne.2 h)
set_option maxHeartbeats 400000 in
theorem bodyOf_any (p : List UInt8) (w : World) (h : 32 ≤ p.length) (hp : p.length ≤ 10000000) :
    Calls Tryd.prog 23 #[.string (bs p)] w fun e w' => e = .returned (.string (bs (p.take (p.length - 32)))) ∧ w' = w := by
  have hex := take_bs p (p.length - 32)
  obtain ⟨k, hk⟩ : ∃ k, p.length - 32 = k := ⟨_, rfl⟩
  obtain ⟨P, hP⟩ : ∃ P, bs p = P := ⟨_, rfl⟩
  have hs : P.size = p.length := by rw [← hP, bs_size]
  have k1 : (P.size : Int) - 32 = (k : Int) := by omega
  have k2 : (k : Int) ≤ (P.size : Int) := by omega
  have k3 : (P.size : Int) ≤ 10000000 := by omega
  rw [hk, hP] at hex
  rw [hk, hP]
  generalize bs (p.take k) = Q at hex ⊢
  clear hP hs hk
  go_enter Tryd.func23, Tryd.ntmps23
  go_wp2
  go_ret
  exact ⟨rfl, rfl⟩
theorem sha_bs (M : List UInt8) : Sa.Sha.sha M = bs (shaL M) := (bs_data _).symm
theorem bs_eq (a b : List UInt8) : ((bs a).toList == (bs b).toList) = decide (a = b) := by
  rw [ByteArray.toList_eq, ByteArray.toList_eq, bs_list, bs_list]
  by_cases h : a = b
  · subst h; simp
  · rw [decide_eq_false h, beq_eq_false_iff_ne]; exact h
/-- The sum that stands at a pack's end. -/
def sumV (p : List UInt8) : List UInt8 := if sumE p = 0 then p.drop (p.length - 32) else []
theorem sumOf_any (M : List UInt8) (w : World) (hK : Sa.KAt w) (h : M.length < 100000000) : Calls Tryd.prog 17 #[.string (bs M)] w fun e w' => e = .returned (.string (bs (shaL M))) ∧ Below w.heap.size w w' := by
  have := Sa.of_any (bs M) w hK (by rw [bs_size]; exact h)
  rw [bs_list, sha_bs] at this
  exact this
set_option maxHeartbeats 800000 in
set_option maxRecDepth 100000 in
theorem sum_any (p : List UInt8) (w : World) (hK : Sa.KAt w) (hp : p.length ≤ 10000000) :
    Calls Tryd.prog 22 #[.string (bs p)] w fun e w' => e = .returned (.tuple #[.string (bs (sumV p)), .int .i64 (sumE p : Int)]) ∧ Below w.heap.size w w' := by
  have HE : Hid (sumE p = if 4194304 < p.length then 3 else if p.length < 32 then 4 else if shaL (p.take (p.length - 32)) = p.drop (p.length - 32) then 0 else 80) := hideIt rfl
  have HV : Hid (sumV p = if sumE p = 0 then p.drop (p.length - 32) else []) := hideIt rfl
  have hs : (bs p).size = p.length := bs_size p
  have HBO := hideIt (fun w h => bodyOf_any p w h hp)
  have HSO := hideIt (fun w h => sumOf_any (p.take (p.length - 32)) w h (by simp; omega))
  have hex := drop_bs p (p.length - 32)
  obtain ⟨n, hn⟩ : ∃ n, p.length = n := ⟨_, rfl⟩
  have be : bs [] = (⟨#[]⟩ : ByteArray) := rfl
  by_cases h1 : 4194304 < n
  · have HE2 : Hid (sumE p = 3) := hideIt (by rw [HE.out, if_pos (by omega)])
    have HV2 : Hid (sumV p = []) := hideIt (by rw [HV.out, HE2.out]; rfl)
    rw [HE2.out, HV2.out, be]
    generalize bs p = P at hs hex ⊢
    have g1 : (4194304 : Int) < (P.size : Int) := by omega
    have g2 : (P.size : Int) ≤ 10000000 := by omega
    clear HE HV hex hs hn HBO HSO
    go_enter Tryd.func22, Tryd.ntmps22
    go_wp2
    go_ret2
    exact ⟨rfl, Below.refl _ _⟩
  · by_cases h2 : n < 32
    · have HE2 : Hid (sumE p = 4) := hideIt (by rw [HE.out, if_neg (by omega), if_pos (by omega)])
      have HV2 : Hid (sumV p = []) := hideIt (by rw [HV.out, HE2.out]; rfl)
      rw [HE2.out, HV2.out, be]
      generalize bs p = P at hs hex ⊢
      have g1 : ¬ (4194304 : Int) < (P.size : Int) := by omega
      have g2 : (P.size : Int) < 32 := by omega
      clear HE HV hex hs hn HBO HSO
      go_enter Tryd.func22, Tryd.ntmps22
      go_wp2
      go_ret2
      exact ⟨rfl, Below.refl _ _⟩
    · have HB1 := hideIt (fun w => HBO.out w (by omega))
      have HS1 := hideIt (HSO.out w hK)
      have hbl : (bs (p.take (p.length - 32))).size = n - 32 := by rw [bs_size, List.length_take]; omega
      have hcmp := bs_eq (shaL (p.take (p.length - 32))) (p.drop (p.length - 32))
      obtain ⟨k, hk⟩ : ∃ k, n - 32 = k := ⟨_, rfl⟩
      rw [hn] at hex hs
      rw [hk] at hbl hex
      have hpk : p.length - 32 = k := by omega
      rw [hpk] at HE HV HB1 HS1 hbl hcmp
      generalize bs p = P at hs hex HB1 ⊢
      have g1 : ¬ (4194304 : Int) < (P.size : Int) := by omega
      have g2 : ¬ (P.size : Int) < 32 := by omega
      have g3 : (k : Int) ≤ (P.size : Int) := by omega
      have g4 : P.extract k P.size = bs (p.drop k) := by rw [← hex, hs]
      have HE1 : Hid (sumE p = if shaL (p.take k) = p.drop k then 0 else 80) := hideIt (by rw [HE.out, if_neg (by omega), if_neg (by omega)])
      have g5 : (P.size : Int) ≤ 10000000 := by omega
      by_cases h3 : shaL (p.take k) = p.drop k
      · rw [decide_eq_true h3] at hcmp
        have HE2 : Hid (sumE p = 0) := hideIt (by rw [HE1.out, if_pos h3])
        have HV2 : Hid (bs (sumV p) = bs (shaL (p.take k))) := hideIt (by rw [HV.out, HE2.out, if_pos rfl, h3])
        rw [HE2.out, HV2.out]
        generalize bs (p.drop k) = D at hcmp g4
        generalize bs (shaL (p.take k)) = X at hcmp HS1 ⊢
        generalize bs (p.take k) = Q at HB1 HS1 hbl
        clear HE HV HE1 hex hs hn HBO HSO h3 hpk hk h1 h2 HV2 HE2
        go_enter Tryd.func22, Tryd.ntmps22
        go_wp2_with (first | (go_at_call 23; refine (HB1.out _).mono ?_; rintro e wx ⟨rfl, hwx⟩; obtain rfl := hwx.symm) | (go_at_call 17; refine HS1.out.mono ?_; rintro e w1 ⟨rfl, hb1⟩))
        go_ret2
        exact ⟨rfl, hb1⟩
      · rw [decide_eq_false h3] at hcmp
        have HE2 : Hid (sumE p = 80) := hideIt (by rw [HE1.out, if_neg h3])
        have HV2 : Hid (sumV p = []) := hideIt (by rw [HV.out, HE2.out]; rfl)
        rw [HE2.out, HV2.out, be]
        generalize bs (p.drop k) = D at hcmp g4
        generalize bs (shaL (p.take k)) = X at hcmp HS1
        generalize bs (p.take k) = Q at HB1 HS1 hbl
        clear HE HV HE1 hex hs hn HBO HSO h3 hpk hk h1 h2 HV2 HE2
        go_enter Tryd.func22, Tryd.ntmps22
        go_wp2_with (first | (go_at_call 23; refine (HB1.out _).mono ?_; rintro e wx ⟨rfl, hwx⟩; obtain rfl := hwx.symm) | (go_at_call 17; refine HS1.out.mono ?_; rintro e w1 ⟨rfl, hb1⟩))
        go_ret2
        exact ⟨rfl, hb1⟩
theorem ScTo.err {T : TypeId} {w w' : World} {r : Nat × List It} {z : Nat} (h : r = (z, [])) (hb : Below w.heap.size w w') : ScTo T w r (.returned (.tuple #[.slice none 0 0, .int .i64 (z : Int)])) w' := by
  subst h
  exact ⟨_, rfl, ⟨rfl, .inl ⟨rfl, rfl⟩⟩, hb⟩
theorem ScTo.after {T : TypeId} {w w1 w' : World} {r : Nat × List It} {e : Ending} (hb : Below w.heap.size w w1) (h : ScTo T w1 r e w') : ScTo T w r e w' := by
  obtain ⟨v, h1, h2, h3⟩ := h
  refine ⟨v, h1, ⟨h2.1, ?_⟩, below2 hb h3⟩
  rcases h2.2 with h | ⟨g, cap, cur, e, h4, h5⟩
  · exact .inl h
  · exact .inr ⟨g, cap, cur, e, Nat.le_trans hb.size h4, h5⟩
set_option maxHeartbeats 1600000 in
set_option maxRecDepth 100000 in
theorem scan_any (p : List UInt8) (w : World) (hK : Sa.KAt w) (hp : p.length ≤ 10000000) :
    Calls Tryd.prog 10 #[.string (bs p)] w fun e w' => ScTo 37 w (scn spPp p) e w' := by
  have HS := hideIt (sum_any p w hK hp)
  have HE : Hid (sumE p = if 4194304 < p.length then 3 else if p.length < 32 then 4 else if shaL (p.take (p.length - 32)) = p.drop (p.length - 32) then 0 else 80) := hideIt rfl
  have HBO := hideIt (fun w h => bodyOf_any p w h hp)
  have HX : Hid (scn spPp p = if sumE p ≠ 0 then (sumE p, []) else scB spPp (p.take (p.length - 32))) := hideIt rfl
  obtain ⟨R, hR⟩ : ∃ R, scn spPp p = R := ⟨_, rfl⟩
  rw [hR] at HX ⊢
  have HT : Hid (∀ e w', ScTo 37 w R e w' ↔ ∃ v, e = .returned (.tuple #[v, .int .i64 (R.1 : Int)]) ∧ w'.ownsRow w.heap.size 37 3 v R.2.length (itsV R.2) ∧ Below w.heap.size w w') := hideIt (fun _ _ => Iff.rfl)
  obtain ⟨z, hz⟩ : ∃ z, sumE p = z := ⟨_, rfl⟩
  rw [hz] at HX HS
  by_cases h0 : z = 0
  · have hl : 32 ≤ p.length := by
      rcases Nat.lt_or_ge p.length 32 with h | h
      · rw [hz, if_neg (by omega), if_pos h] at HE
        have := HE.out
        omega
      · exact h
    subst h0
    rw [if_neg (by simp)] at HX
    have HB1 := hideIt (fun w => HBO.out w hl)
    obtain ⟨S, hS⟩ : ∃ S, p.take (p.length - 32) = S := ⟨_, rfl⟩
    rw [hS] at HX HB1
    have hSl : S.length ≤ 10000000 := by rw [← hS, List.length_take]; omega
    have HP := hideIt (fun w => hasPrefix_any (bs S) ⟨#[112, 111, 108, 108, 97, 114, 100, 32, 112, 97, 99, 107, 10]⟩ w)
    rw [pre_title] at HP
    have hex := drop_bs S 13
    have HU := hideIt (fun w => unnum_any (bs (S.drop 13)) w (by rw [bs_size]; simp; omega))
    rw [bs_list] at HU
    have huk := Lz.unnum_k (S.drop 13)
    have HSB : Hid (scB spPp S = if S.take 13 ≠ titleL then (6, []) else if (Cd.unnum (S.drop 13)).2.2 ≠ 0 then ((Cd.unnum (S.drop 13)).2.2, []) else if 2048 < (Cd.unnum (S.drop 13)).1 then (3, []) else ris spPp S (Cd.unnum (S.drop 13)).1 16777216 (13 + (Cd.unnum (S.drop 13)).2.1)) := hideIt rfl
    have HRI := hideIt (fun a n w h1 h2 => readItems_any S a n w h1 hSl h2)
    have hSs : (bs S).size = S.length := bs_size S
    obtain ⟨N, hN⟩ : ∃ N, S.length = N := ⟨_, rfl⟩
    rw [hN] at HRI hSs hSl
    obtain ⟨u, j, y, hu⟩ : ∃ n j z, Cd.unnum (S.drop 13) = (n, j, z) := ⟨_, _, _, rfl⟩
    rw [hu] at HU huk HSB
    simp only [unV] at HU
    simp only [List.length_drop, hN] at huk
    simp only at HSB
    by_cases ht : S.take 13 = titleL
    · rw [decide_eq_true ht] at HP
      rw [if_neg (by simpa using ht)] at HSB
      have h13 : 13 ≤ N := by
        have := congrArg List.length ht
        rw [List.length_take] at this
        have h2 : titleL.length = 13 := rfl
        omega
      generalize bs (S.drop 13) = T1 at hex HU
      generalize bs S = T at hex HU hSs HB1 HP HRI
      have t1 : (13 : Int) ≤ (T.size : Int) := by omega
      have t2 : (T.size : Int) ≤ 10000000 := by omega
      have hex2 : T.extract 13 T.size = T1 := hex
      by_cases hy : y = 0
      · subst hy
        rw [if_neg (by simp)] at HSB
        by_cases hu2 : 2048 < u
        · have w1 : (2048 : Int) < (u : Int) := by omega
          have HR2 : Hid (R = (3, [])) := hideIt (by rw [HX.out, HSB.out, if_pos hu2])
          clear HSB HX hR hz hu hS ht hN hSs hex hSl huk
          go_enter Tryd.func10, Tryd.ntmps10
          go_wp2_with (first | (go_at_call 22; refine HS.out.mono ?_; rintro e w1 ⟨rfl, hb1⟩) | (go_at_call 23; refine (HB1.out _).mono ?_; rintro e wx ⟨rfl, hwx⟩; obtain rfl := hwx.symm) | (go_at_call 24; refine (HP.out _).mono ?_; rintro e wx ⟨rfl, hwx⟩; obtain rfl := hwx.symm) | (go_at_call 25; refine (HU.out _).mono ?_; rintro e wx ⟨rfl, hwx⟩; obtain rfl := hwx.symm))
          go_ret2
          exact ScTo.err HR2.out hb1
        · have w1 : ¬ (2048 : Int) < (u : Int) := by omega
          have w2 : (u : Int) ≤ 2048 := by omega
          obtain ⟨a, ha⟩ : ∃ a, 13 + j = a := ⟨_, rfl⟩
          have a1 : (13 : Int) + (j : Int) = (a : Int) := by omega
          have a2 : (a : Int) ≤ 10000000 := by omega
          rw [if_neg hu2, ha] at HSB
          have HR2 : Hid (ris spPp S u 16777216 a = R) := hideIt (by rw [HX.out, HSB.out])
          have HRI2 := hideIt (fun w => HRI.out a u w (by omega) (by omega))
          rw [HR2.out] at HRI2
          clear HSB HX hR hz hu hS ht hN hSs hex hSl huk ha HRI hu2
          go_enter Tryd.func10, Tryd.ntmps10
          go_wp2_with (first | (go_at_call 22; refine HS.out.mono ?_; rintro e w1 ⟨rfl, hb1⟩) | (go_at_call 23; refine (HB1.out _).mono ?_; rintro e wx ⟨rfl, hwx⟩; obtain rfl := hwx.symm) | (go_at_call 24; refine (HP.out _).mono ?_; rintro e wx ⟨rfl, hwx⟩; obtain rfl := hwx.symm) | (go_at_call 25; refine (HU.out _).mono ?_; rintro e wx ⟨rfl, hwx⟩; obtain rfl := hwx.symm) | (go_at_call 26; refine (HRI2.out _).mono ?_; rintro e w2 hsc; obtain ⟨v, rfl, hv1, hv2⟩ := hsc))
          go_ret2
          exact ScTo.after hb1 ⟨v, rfl, hv1, hv2⟩
      · have w1 : ¬ (y : Int) = 0 := by omega
        have w2 : ((y : Int) != 0) = true := by simpa using w1
        have w3 : ((y : Int) == 0) = false := by simpa using w1
        have HR2 : Hid (R = (y, [])) := hideIt (by rw [HX.out, HSB.out, if_pos hy])
        clear HSB HX hR hz hu hS ht hN hSs hex hSl huk hy
        go_enter Tryd.func10, Tryd.ntmps10
        go_wp2_with (first | (go_at_call 22; refine HS.out.mono ?_; rintro e w1 ⟨rfl, hb1⟩) | (go_at_call 23; refine (HB1.out _).mono ?_; rintro e wx ⟨rfl, hwx⟩; obtain rfl := hwx.symm) | (go_at_call 24; refine (HP.out _).mono ?_; rintro e wx ⟨rfl, hwx⟩; obtain rfl := hwx.symm) | (go_at_call 25; refine (HU.out _).mono ?_; rintro e wx ⟨rfl, hwx⟩; obtain rfl := hwx.symm))
        go_ret2
        exact ScTo.err HR2.out hb1
    · rw [decide_eq_false ht] at HP
      have HR2 : Hid (R = (6, [])) := hideIt (by rw [HX.out, HSB.out, if_pos ht])
      generalize bs S = T at hex HU hSs HB1 HP HRI
      clear HSB HX hR hz hu hS ht hN hSs hex hSl huk HU HRI
      go_enter Tryd.func10, Tryd.ntmps10
      go_wp2_with (first | (go_at_call 22; refine HS.out.mono ?_; rintro e w1 ⟨rfl, hb1⟩) | (go_at_call 23; refine (HB1.out _).mono ?_; rintro e wx ⟨rfl, hwx⟩; obtain rfl := hwx.symm) | (go_at_call 24; refine (HP.out _).mono ?_; rintro e wx ⟨rfl, hwx⟩; obtain rfl := hwx.symm))
      go_ret2
      exact ScTo.err HR2.out hb1
  · have w1 : ¬ (z : Int) = 0 := by omega
    have w2 : ((z : Int) != 0) = true := by simpa using w1
    have w3 : ((z : Int) == 0) = false := by simpa using w1
    have HR2 : Hid (R = (z, [])) := hideIt (by rw [HX.out, if_pos h0])
    clear HX hR hz h0
    go_enter Tryd.func10, Tryd.ntmps10
    go_wp2_with (first | (go_at_call 22; refine HS.out.mono ?_; rintro e w1 ⟨rfl, hb1⟩))
    go_ret2
    exact ScTo.err HR2.out hb1
end Go.Proofs.YtjiigdjopcegeaaDoor.Pk
