/- The law TreeMost, walked. -/
import Derived.Test.YtfpnepjdcgghgaaTla
import Derived.Deep.RegionLaw
namespace Go.Proofs.Ytfpnepjdcgghgaa
open Go.RowKit Go.Shelf
def nameAt (i : Nat) : ByteArray := bs [UInt8.ofNat (97 + i / 26), UInt8.ofNat (97 + i % 26)]
def enAt (i : Nat) : En := ⟨nameAt i, ((1 + i % 3 : Nat) : Int), idS (UInt8.ofNat i)⟩
def listL (k : Nat) : List En := (List.range k).map enAt
theorem all_fine : (List.range 257).all (fun i => decide (chk1 (enAt i) = 0)) = true := by decide +kernel
theorem all_rise : (List.range 256).all (fun i => less (nameAt i) (nameAt (i + 1))) = true := by decide +kernel
theorem fine_at (i : Nat) (h : i < 257) : chk1 (enAt i) = 0 := of_decide_eq_true (List.all_eq_true.1 all_fine i (List.mem_range.2 h))
theorem listL_len (k : Nat) : (listL k).length = k := by simp [listL]
theorem listL_at (k i : Nat) (h : i < k) : (listL k)[i]? = some (enAt i) := by simp [listL, h]
theorem listL_succ (k : Nat) : listL (k + 1) = listL k ++ [enAt k] := by simp [listL, List.range_succ]
theorem chk_list (k : Nat) (hk : k ≤ 256) : ∀ j i, i + j = k → chkF (before (listL k) i) ((listL k).drop i) = 0 := by
  intro j
  induction j with
  | zero =>
    intro i hi
    rw [List.drop_eq_nil_of_le (by rw [listL_len]; omega), chkF]
  | succ j ih =>
    intro i hi
    rw [chk_step _ i (enAt i) (listL_at k i (by omega)), fine_at i (by omega), ih (i + 1) (by omega)]
    have : stuck (before (listL k) i) (enAt i) = false := by
      cases i with
      | zero => rfl
      | succ i =>
        rw [before, listL_at k i (by omega), stuck]
        have := List.all_eq_true.1 all_rise i (List.mem_range.2 (by omega))
        show (!less (nameAt i) (nameAt (i + 1))) = false
        rw [this]
        rfl
    rw [this]
    simp
theorem chk_most (k : Nat) (hk : k ≤ 257) : chk (listL k) = if 256 < k then 3 else 0 := by
  unfold chk
  rw [listL_len]
  by_cases h : 256 < k
  · rw [if_pos h, if_pos h]
  · rw [if_neg h, if_neg h]
    exact chk_list k (by omega) k 0 (by omega)
theorem all_wf (k : Nat) (hk : k ≤ 257) : ∀ x ∈ listL k, wf x ∧ x.nm.size ≤ 64 := by
  intro x hx
  obtain ⟨i, hi, rfl⟩ := List.mem_map.1 hx
  exact chk1_wf _ (fine_at i (by have := List.mem_range.1 hi; omega))
theorem dec_most (k : Nat) (hk : k ≤ 257) : dec (encL (listL k)) = if 256 < k then (3, []) else (0, listL k) := by
  rw [dec_mk _ (fun x hx => (all_wf k hk x hx).1), listL_len]
  by_cases h : 256 < k
  · rw [if_pos h, if_pos h]
  · rw [if_neg h, if_neg h, fin, chk_most k hk, if_neg h]
    rfl
theorem i64_and3 (n : Int) : bits .and .i64 n 3 = n % 4 := by
  have h3 : (BitVec.ofInt 64 3).toNat = 2 ^ 2 - 1 := by decide
  have key : (BitVec.ofInt 64 n &&& BitVec.ofInt 64 3).toNat = (n % ((2 ^ 64 : Nat) : Int)).toNat % 2 ^ 2 := by
    rw [BitVec.toNat_and, BitVec.toNat_ofInt, h3, Nat.and_two_pow_sub_one_eq_mod]
  show IntKind.i64.wrap ((BitVec.ofInt 64 n &&& BitVec.ofInt 64 3).toNat : Nat) = n % 4
  rw [key, IntKind.wrap_i64]
  omega
theorem two_conv (a b : Nat) (ha : a < 256) (hb : b < 256) (v : World) : (convert 48 9 (.slice (some ⟨v.heap.size, 0, none⟩) 2 2)).run Try.prog (v.alloc (.cells #[.int .u8 (a : Int), .int .u8 (b : Int)] 5)) = .ok (.string (bs [UInt8.ofNat a, UInt8.ofNat b])) (v.alloc (.cells #[.int .u8 (a : Int), .int .u8 (b : Int)] 5)) := by
  have ea : ((UInt8.ofNat a).toNat : Int) = (a : Int) := by simp; omega
  have eb : ((UInt8.ofNat b).toNat : Int) = (b : Int) := by simp; omega
  refine run_own (B := 0) (n := 2) (l := [UInt8.ofNat a, UInt8.ofNat b]) ⟨rfl, .inr ⟨v.heap.size, 2, _, rfl, Nat.zero_le _, alloc_at rfl, Nat.le_refl _, by unfold maxLen; omega, rfl, ?_⟩⟩
  simp only [u8s, List.map_cons, List.map_nil, ea, eb]
  rfl
theorem two_convD (a b : Nat) (ha : a < 256) (hb : b < 256) (v : World) : (convert 48 9 (.slice (some ⟨v.heap.size, 0, none⟩) 2 2)).run Try.prog (v.alloc (.cells #[.int .u8 (a : Int), .int .u8 (b : Int)] 5)).drew = .ok (.string (bs [UInt8.ofNat a, UInt8.ofNat b])) (v.alloc (.cells #[.int .u8 (a : Int), .int .u8 (b : Int)] 5)).drew := by
  have ea : ((UInt8.ofNat a).toNat : Int) = (a : Int) := by simp; omega
  have eb : ((UInt8.ofNat b).toNat : Int) = (b : Int) := by simp; omega
  refine run_own (B := 0) (n := 2) (l := [UInt8.ofNat a, UInt8.ofNat b]) ⟨rfl, .inr ⟨v.heap.size, 2, _, rfl, Nat.zero_le _, alloc_at rfl, Nat.le_refl _, by unfold maxLen; omega, rfl, ?_⟩⟩
  simp only [u8s, List.map_cons, List.map_nil, ea, eb]
  rfl
theorem two_convB (a b : Nat) (ha : a < 256) (hb : b < 256) (v v1 : World) (h : Below (v.alloc (.cells #[.int .u8 (a : Int), .int .u8 (b : Int)] 5)).drew.heap.size (v.alloc (.cells #[.int .u8 (a : Int), .int .u8 (b : Int)] 5)).drew v1) : (convert 48 9 (.slice (some ⟨v.heap.size, 0, none⟩) 2 2)).run Try.prog v1 = .ok (.string (bs [UInt8.ofNat a, UInt8.ofNat b])) v1 := by
  have ea : ((UInt8.ofNat a).toNat : Int) = (a : Int) := by simp; omega
  have eb : ((UInt8.ofNat b).toNat : Int) = (b : Int) := by simp; omega
  have hrow : v1.heap[v.heap.size]? = some (.cells #[.int .u8 (a : Int), .int .u8 (b : Int)] 5 (0, 0)) := (h.block v.heap.size (by simp)).trans (alloc_at rfl)
  refine run_own (B := 0) (n := 2) (l := [UInt8.ofNat a, UInt8.ofNat b]) ⟨rfl, .inr ⟨v.heap.size, 2, _, rfl, Nat.zero_le _, hrow, Nat.le_refl _, by unfold maxLen; omega, rfl, ?_⟩⟩
  simp only [u8s, List.map_cons, List.map_nil, ea, eb]
  rfl
theorem three_new2 {w : World} (x : En) (o : Obj) (t : TypeId) (j : Nat) (u : Value) (h : [Value.string x.nm, .int .i64 x.md, .string x.ids][j]? = some u) : ((w.alloc o).alloc (.cells #[.string x.nm, .int .i64 x.md, .string x.ids] t)).cell? ((⟨w.heap.size + 1, 0, none⟩ : Addr).add j) = some u := by
  have := three_new (w := w.alloc o) x t j u h
  simpa using this
set_option maxHeartbeats 3200000 in
set_option maxRecDepth 100000 in
theorem most_law (n : Int) (w : World) (hm : MaxAt w) : Calls Try.prog 6 #[.int .i64 n] w fun e w' => e = .returned (.bool true) ∧ Below w.heap.size w w' := by
  obtain ⟨i0, hi0, hz0, hz1, hz2⟩ := info_parts infoE
  have hand := i64_and3 n
  obtain ⟨j, hj⟩ : ∃ j : Nat, n % 4 = (j : Int) := ⟨(n % 4).toNat, by omega⟩
  rw [hj] at hand
  obtain ⟨k, hk⟩ : ∃ k, 254 + j = k := ⟨_, rfl⟩
  have hk4 : j < 4 := by omega
  have kI : (254 : Int) + (j : Int) = (k : Int) := by omega
  have kI2 : (k : Int) ≤ 257 := by omega
  have hk257 : k ≤ 257 := by omega
  have HM := hideIt hm
  have HID := hideIt (id_any)
  clear hj hm
  go_enter Try.func6, Try.ntmps6
  go_wp2
  go_loopw [4, 5] (fun u t wr => ∃ i : Nat, i ≤ k ∧ t = .int .i64 i ∧ wr.ownsRow w.heap.size 36 3 u i (esV (listL i)) ∧ Below w.heap.size w wr) (fun _ t _ => k - (intOf t).toNat)
  case atStart => exact ⟨0, by omega, rfl, ⟨rfl, .inr ⟨w.heap.size, 0, #[], rfl, Nat.le_refl _, alloc_at rfl, by simp, by simp, rfl, rfl⟩⟩, (Below.refl _ _).alloc (Nat.le_refl _) _⟩
  case round =>
    obtain ⟨i, hi, rfl, ho, hb⟩ := hrel
    have HO := hideIt ho
    have HB := hideIt hb
    have hws : w.heap.size ≤ wr.heap.size := hb.size
    clear ho hb
    by_cases hlt : i < k
    · have i1 : (i : Int) < (k : Int) := by omega
      have i2 : decide ((i : Int) < (k : Int)) = true := decide_eq_true i1
      have i257 : i < 257 := by omega
      obtain ⟨p, hp⟩ : ∃ p, i / 26 = p := ⟨_, rfl⟩
      obtain ⟨r, hr⟩ : ∃ r, i % 26 = r := ⟨_, rfl⟩
      obtain ⟨t, ht⟩ : ∃ t, i % 3 = t := ⟨_, rfl⟩
      obtain ⟨a, ha⟩ : ∃ a, 97 + p = a := ⟨_, rfl⟩
      obtain ⟨b, hb⟩ : ∃ b, 97 + r = b := ⟨_, rfl⟩
      obtain ⟨md, hmd⟩ : ∃ md, 1 + t = md := ⟨_, rfl⟩
      obtain ⟨c, hc⟩ : ∃ c, UInt8.ofNat i = c := ⟨_, rfl⟩
      have hcn : c.toNat = i % 256 := by rw [← hc]; simp
      have d1 : (i : Int) / 26 = (p : Int) := by omega
      have d2 : (i : Int).tmod 26 = (r : Int) := by rw [← hr, Int.tmod_eq_emod_of_nonneg (by omega)]; omega
      have d3 : (i : Int).tmod 3 = (t : Int) := by rw [← ht, Int.tmod_eq_emod_of_nonneg (by omega)]; omega
      have e1 : IntKind.i64.wrap (p : Int) = (p : Int) := by rw [IntKind.wrap_i64]; omega
      have e2 : IntKind.u8.wrap (p : Int) = (p : Int) := by rw [IntKind.wrap_u8]; omega
      have e3 : (97 : Int) + (p : Int) = (a : Int) := by omega
      have e4 : IntKind.u8.wrap (a : Int) = (a : Int) := by rw [IntKind.wrap_u8]; omega
      have e5 : IntKind.u8.wrap (r : Int) = (r : Int) := by rw [IntKind.wrap_u8]; omega
      have e6 : (97 : Int) + (r : Int) = (b : Int) := by omega
      have e7 : IntKind.u8.wrap (b : Int) = (b : Int) := by rw [IntKind.wrap_u8]; omega
      have e8 : (1 : Int) + (t : Int) = (md : Int) := by omega
      have e9 : IntKind.i64.wrap (md : Int) = (md : Int) := by rw [IntKind.wrap_i64]; omega
      have e10 : IntKind.u8.wrap (i : Int) = (c.toNat : Int) := by rw [IntKind.wrap_u8, hcn]; omega
      obtain ⟨x, hx⟩ : ∃ x : Int, (c.toNat : Int) = x := ⟨_, rfl⟩
      rw [hx] at e10
      obtain ⟨NM, hNM⟩ : ∃ NM, nameAt i = NM := ⟨_, rfl⟩
      obtain ⟨IS, hIS⟩ : ∃ IS, idS c = IS := ⟨_, rfl⟩
      have hcv := two_conv a b (by omega) (by omega)
      rw [show bs [UInt8.ofNat a, UInt8.ofNat b] = NM by rw [← hNM, nameAt, ← ha, ← hb, ← hp, ← hr]] at hcv
      have hcvd : ∀ v : World, (convert 48 9 (.slice (some ⟨v.heap.size, 0, none⟩) 2 2)).run Try.prog (v.alloc (.cells #[.int .u8 (a : Int), .int .u8 (b : Int)] 5)).drew = .ok (.string NM) (v.alloc (.cells #[.int .u8 (a : Int), .int .u8 (b : Int)] 5)).drew := by
        have := two_convD a b (by omega) (by omega)
        rw [show bs [UInt8.ofNat a, UInt8.ofNat b] = NM by rw [← hNM, nameAt, ← ha, ← hb, ← hp, ← hr]] at this
        exact this
      have ha2 : a < 256 := by omega
      have hb2 : b < 256 := by omega
      have HNMB : Hid (bs [UInt8.ofNat a, UInt8.ofNat b] = NM) := hideIt (by rw [← hNM, nameAt, ← ha, ← hb, ← hp, ← hr])
      have HE : Hid (enAt i = ⟨NM, (md : Int), IS⟩) := hideIt (by rw [enAt, hNM, hc, hIS, ← hmd, ← ht])
      have HIA : Hid (Calls Try.prog 19 #[.int .u8 x] (wr.alloc (.cells #[.int .u8 (a : Int), .int .u8 (b : Int)] 5)).drew fun e w1 => e = .returned (.string IS) ∧ w1.ownsRow w.heap.size 36 3 u4 i (esV (listL i)) ∧ Below wr.heap.size wr w1 ∧ (convert 48 9 (.slice (some ⟨wr.heap.size, 0, none⟩) 2 2)).run Try.prog w1 = .ok (.string NM) w1) := hideIt (by
        have := HID.out c (wr.alloc (.cells #[.int .u8 (a : Int), .int .u8 (b : Int)] 5)).drew
        rw [hx, hIS] at this
        exact this.mono fun e w1 h => ⟨h.1, own_below ((HO.out.alloc _).drew) h.2, below2 (((Below.refl _ _).alloc (Nat.le_refl _) _).drew) h.2, by rw [← HNMB.out]; exact two_convB a b ha2 hb2 wr w1 h.2⟩)
      have HIB : Hid (Calls Try.prog 19 #[.int .u8 x] wr.drew fun e w1 => e = .returned (.string IS) ∧ w1.ownsRow w.heap.size 36 3 u4 i (esV (listL i)) ∧ Below wr.heap.size wr w1) := hideIt (by
        have := HID.out c wr.drew
        rw [hx, hIS] at this
        exact this.mono fun e w1 h => ⟨h.1, own_below HO.out.drew h.2, below2 (Below.refl _ wr).drew h.2⟩)
      have hi2 : i ≤ 1000 := by omega
      clear hp hr ht ha hb hmd hc hcn hx hNM hIS
      go_wp2
      go_region_law (first
        | (refine step_append_own (by rfl) _ _ 22 (by rfl) w.heap.size 36 i0 (.agg #[.string ⟨#[]⟩, .int .i64 0, .string ⟨#[]⟩]) 3 40 Try.underlying22 hi0 hz0 hz1 hz2 rfl (by decide) _ _ _ (by rfl) (HO1.out.alloc _) ⟨w1.heap.size, 0, none⟩ 1 1 [.string NM, .int .i64 (md : Int), .string IS] (by rfl) rfl (three_new (w := w1) ⟨NM, (md : Int), IS⟩ _) (fun u hu => by simp at hu; rcases hu with rfl | rfl | rfl <;> rfl) (by unfold maxLen; omega) (by omega) (by simp; omega) ?_; intro v3 w3 hown3 hg3)
        | (refine step_append_own (by rfl) _ _ 22 (by rfl) w.heap.size 36 i0 (.agg #[.string ⟨#[]⟩, .int .i64 0, .string ⟨#[]⟩]) 3 40 Try.underlying22 hi0 hz0 hz1 hz2 rfl (by decide) _ _ _ (by rfl) ((HO1.out.alloc _).alloc _) ⟨w1.heap.size + 1, 0, none⟩ 1 1 [.string NM, .int .i64 (md : Int), .string IS] (by rfl) rfl (three_new2 (w := w1) ⟨NM, (md : Int), IS⟩ _ _) (fun u hu => by simp at hu; rcases hu with rfl | rfl | rfl <;> rfl) (by unfold maxLen; omega) (by omega) (by simp; omega) ?_; intro v3 w3 hown3 hg3)
        | (go_simp; go_at_call 19; refine HIA.out.mono ?_; rintro e w1 ⟨rfl, ho1, hb1, hcv1⟩; dsimp only; have HO1 := hideIt ho1; have hw1 : wr.heap.size ≤ w1.heap.size := hb1.size; clear ho1)
        | (go_simp; go_at_call 19; refine HIB.out.mono ?_; rintro e w1 ⟨rfl, ho1, hb1⟩; dsimp only; have HO1 := hideIt ho1; have hw1 : wr.heap.size ≤ w1.heap.size := hb1.size; clear ho1))
      all_goals have hown4 : w3.ownsRow w.heap.size 36 3 v3 (i + 1) (esV (listL (i + 1))) := by rw [listL_succ, HE.out, esV_snoc]; exact hown3
      all_goals have hb3 : Below w.heap.size w w3 := by first | exact Below.grown ((below2 HB.out hb1).alloc (by omega) _) hg3 (by simp; omega) (row_ge HO.out) | exact Below.grown (((below2 HB.out hb1).alloc (by omega) _).alloc (by simp; omega) _) hg3 (by simp; omega) (row_ge HO.out)
      all_goals have HO4 := hideIt hown4
      all_goals have HB3 := hideIt hb3
      all_goals clear hown3 hg3 hown4 hb3 hcv hcvd
      all_goals go_wp2
      all_goals go_roundw
      all_goals first | exact ⟨i + 1, by omega, by go_num, HO4.out, HB3.out⟩ | (simp [intOf]; omega)
    · obtain rfl : i = k := by omega
      have i2 : decide ((i : Int) < (i : Int)) = false := decide_eq_false (by omega)
      have hrow : ERow wr u4 (listL i) := ERow.of_row (t := 36) (B := w.heap.size) (by rw [listL_len]; exact HO.out)
      obtain ⟨a0, c0, rfl⟩ := hrow.sliceN (listL_len i)
      have hchk := chk_most i hk257
      have hdec := dec_most i hk257
      have hlen := encL_len _ (all_wf i hk257)
      rw [listL_len] at hlen
      have HEN := hideIt (encode_any _ (listL i) wr hrow)
      rw [encS, hchk] at HEN
      have HCV := hideIt (fun w v h => conv_any v (listL i) w h (by rw [listL_len]; omega))
      have HPU := hideIt (fun w v h => refput_any v (listL i) w h (by rw [listL_len]; omega) (all_wf i hk257))
      have HDE := hideIt (fun w h => decode_any (encL (listL i)) (by omega) w h)
      have HAW := hideIt (awake_any)
      obtain ⟨S, hS⟩ : ∃ S, bs (encL (listL i)) = S := ⟨_, rfl⟩
      rw [hS] at HEN HPU HDE
      have HRW := hideIt hrow
      clear hrow hlen hS hchk
      by_cases h256 : 256 < i
      · have g1 : (256 : Int) < (i : Int) := by omega
        have g2 : decide ((256 : Int) < (i : Int)) = true := decide_eq_true g1
        have HEN2 : Hid (Calls Try.prog 9 #[.slice a0 i c0] wr fun e w' => e = .returned (.tuple #[.string ⟨#[]⟩, .int .i64 3]) ∧ Below wr.heap.size wr w') := hideIt (by have := HEN.out; rw [if_pos h256] at this; exact this)
        have HDE2 : Hid (∀ w, MaxAt w → Calls Try.prog 13 #[.string S] w fun e w' => ∃ v, e = .returned (.tuple #[v, .int .i64 3]) ∧ ERow w' v [] ∧ Below w.heap.size w w') := hideIt (fun w h => by
          have := HDE.out w h
          unfold DecTo at this
          rw [hdec, if_pos h256] at this
          exact this)
        clear HEN HDE hdec
        go_wp2_with (first
          | (go_at_call 9; refine HEN2.out.mono ?_; rintro e w1 ⟨rfl, hb1⟩)
          | (go_at_call 11; refine (HCV.out _ _ (HRW.out.below hb1)).mono ?_; rintro e w2 ⟨v2, rfl, hr2, hb2⟩)
          | (go_at_call 14; refine (HPU.out _ _ hr2).mono ?_; rintro e w3 ⟨rfl, hb3⟩; have HB3 := hideIt (below2 HB.out (below2 hb1 (below2 hb2 hb3))))
          | (go_at_call 13; refine (HDE2.out _ (HM.out.below HB3.out)).mono ?_; rintro e w4 ⟨v4, rfl, hr4, hb4⟩; obtain ⟨a4, c4, rfl⟩ := hr4.sliceN (n := 0) rfl; have HB4 := hideIt (below2 HB3.out hb4))
          | (go_at_call 12; refine (HAW.out _ (HM.out.below HB4.out)).mono ?_; rintro e w5 ⟨rfl, hb5⟩))
        go_ret
        exact ⟨rfl, below2 HB4.out hb5⟩
      · have g1 : ¬ (256 : Int) < (i : Int) := by omega
        have g2 : decide ((256 : Int) < (i : Int)) = false := decide_eq_false g1
        have HEN2 : Hid (Calls Try.prog 9 #[.slice a0 i c0] wr fun e w' => e = .returned (.tuple #[.string S, .int .i64 0]) ∧ Below wr.heap.size wr w') := hideIt (by have := HEN.out; rw [if_neg h256] at this; exact this)
        have HDE2 : Hid (∀ w, MaxAt w → Calls Try.prog 13 #[.string S] w fun e w' => ∃ v, e = .returned (.tuple #[v, .int .i64 0]) ∧ ERow w' v (listL i) ∧ Below w.heap.size w w') := hideIt (fun w h => by
          have := HDE.out w h
          unfold DecTo at this
          rw [hdec, if_neg h256] at this
          exact this)
        clear HEN HDE hdec
        go_wp2_with (first
          | (go_at_call 9; refine HEN2.out.mono ?_; rintro e w1 ⟨rfl, hb1⟩; have hrw1 := HRW.out.below hb1; have HBQ := hideIt (below2 HB.out hb1))
          | (go_at_call 11; refine (HCV.out _ _ hrw1).mono ?_; rintro e w2 ⟨v2, rfl, hr2, hb2⟩; have HBR := hideIt (below2 HBQ.out hb2); have hrw2 := hrw1.below hb2)
          | (go_at_call 14; refine (HPU.out _ _ hr2).mono ?_; rintro e w3 ⟨rfl, hb3⟩; have HB3 := hideIt (below2 HBR.out hb3); have hrw3 := hrw2.below hb3)
          | (go_at_call 13; refine (HDE2.out _ (HM.out.below HB3.out)).mono ?_; rintro e w4 ⟨v4, rfl, hr4, hb4⟩; obtain ⟨a4, c4, rfl⟩ := hr4.sliceN (listL_len i); have HB4 := hideIt (below2 HB3.out hb4); have hrw4 := hrw3.below hb4)
          | (go_at_call 12; refine (HAW.out _ (HM.out.below HB4.out)).mono ?_; rintro e w5 ⟨rfl, hb5⟩; have hrw1 := hrw4.below hb5; have HBQ := hideIt (below2 HB4.out hb5)))
        go_ret
        exact ⟨rfl, HB3.out⟩
end Go.Proofs.Ytfpnepjdcgghgaa
