/- Decimal digits, walked: the program's reading of them, and the document's digits and reading. -/
import Derived.Test.YtdbbgpcjclmelaaGreatDoorCbDigp
import Derived.Test.YtdbbgpcjclmelaaGreatDoorCbDigw
namespace Go.Proofs.YtdbbgpcjclmelaaGreatDoor.Cb
open Go.RowKit
def Errs (w : World) : Prop := (∃ tp p, w.var? Tryz.prog "strconv.ErrSyntax" = some #[.iface tp p]) ∧ (∃ tp p, w.var? Tryz.prog "strconv.ErrRange" = some #[.iface tp p])
theorem errs_below {w w' : World} (h : Below w.heap.size w w') (he : Errs w) : Errs w' := by
  obtain ⟨⟨a, b, h1⟩, ⟨c, d, h2⟩⟩ := he
  exact ⟨⟨a, b, var_below h h1⟩, ⟨c, d, var_below h h2⟩⟩
def udV (o : Option Nat) : Value := match o with | some n => .tuple #[.int .u64 (n : Int), .int .i64 0] | none => .tuple #[.int .u64 0, .int .i64 6]
set_option maxHeartbeats 400000 in
set_option maxRecDepth 100000 in
theorem refdec_any (u : Nat) : ∀ (w : World), u < 18446744073709551616 → Calls Tryz.prog 28 #[.int .u64 (u : Int)] w fun e w' => e = .returned (.string (bs (Lib.decDigits u))) ∧ Below w.heap.size w w' := by
  intro w hu
  have u64 : (u : Int) < 18446744073709551616 := by omega
  by_cases h : u < 10
  · have h1 : (u : Int) < 10 := by omega
    have HD := hideIt (fun w => digit_any u w (by omega))
    have e : bs [Cd.dig u] = bs (Lib.decDigits u) := by rw [Lib.decDigits_one h, Cd.dig, if_pos h]
    rw [e] at HD
    clear e
    go_enter Tryz.func28, Tryz.ntmps28
    go_wp2_with (first | (go_at_call 52; refine (HD.out _).mono ?_; rintro e w1 ⟨rfl, hb1⟩))
    go_ret
    exact ⟨rfl, hb1⟩
  · have h1 : ¬ (u : Int) < 10 := by omega
    have h1d : decide ((u : Int) < 10) = false := decide_eq_false h1
    have ih := refdec_any (u / 10)
    obtain ⟨q, hq⟩ : ∃ q, u / 10 = q := ⟨_, rfl⟩
    obtain ⟨r, hr⟩ : ∃ r, u % 10 = r := ⟨_, rfl⟩
    rw [hq] at ih
    have HI := hideIt (fun w => ih w (by omega))
    have HD := hideIt (fun w => digit_any r w (by omega))
    have q1 : (u : Int) / 10 = (q : Int) := by omega
    have r1 : (u : Int) % 10 = (r : Int) := by omega
    have r2 : (r : Int) < 10 := by omega
    have q2 : q < 18446744073709551616 := by omega
    obtain ⟨a, ha⟩ : ∃ a, bs (Lib.decDigits q) = a := ⟨_, rfl⟩
    obtain ⟨b, hb⟩ : ∃ b, bs [Cd.dig r] = b := ⟨_, rfl⟩
    rw [ha] at HI
    rw [hb] at HD
    have HE : Hid (bs (Lib.decDigits u) = a ++ b) := hideIt (by rw [Dd.dec_big h, hq, hr, ← ha, ← hb, bs_append, Cd.dig, if_pos (by omega)])
    have sa : a.size ≤ 20 := by
      rw [← ha, bs_size, Lib.decDigits_length]
      exact nd20 q (by omega) q2
    have sb : b.size ≤ 1 := by rw [← hb, bs_size]; simp
    have t1 : ¬ 9223372036854775807 < a.size + b.size := by omega
    clear ih hq hr ha hb
    go_enter Tryz.func28, Tryz.ntmps28
    go_wp2_with (first | (go_at_call 28; refine (HI.out _).mono ?_; rintro e w1 ⟨rfl, hb1⟩) | (go_at_call 52; refine (HD.out _).mono ?_; rintro e w2 ⟨rfl, hb2⟩))
    go_ret
    exact ⟨by rw [HE.out]; rfl, below2 hb1 hb2⟩
  termination_by u
  decreasing_by omega
theorem parse_fine (s : ByteArray) (u : Nat) (w : World) (hs : s.size ≤ 1000000) (h : Lib.parseUintB 64 s.data.toList = .ok u) :
    Calls Tryz.prog 131 #[.string s, .int .i64 10, .int .i64 64] w fun e w' => e = .returned (.tuple #[.int .u64 (u : Int), .nilIface]) ∧ Below w.heap.size w w' := by
  refine (Any.strconv_ParseUint_10_at64_ok Tryz.laysPu14 s (by omega) u h w).mono ?_
  rintro e w' ⟨rfl, rfl | rfl⟩
  · exact ⟨rfl, Below.refl _ _⟩
  · exact ⟨rfl, Lib.bytesWorld_below _ _ _⟩
theorem parse_bad (s : ByteArray) (w : World) (hs : s.size ≤ 1000000) (he : Errs w) (h : ∀ u, Lib.parseUintB 64 s.data.toList ≠ .ok u) :
    Calls Tryz.prog 131 #[.string s, .int .i64 10, .int .i64 64] w fun e w' => ∃ (z : Int) (N : Nat), e = .returned (.tuple #[.int .u64 z, .iface 234 (.pointer (some ⟨N, 0, none⟩))]) ∧ Below w.heap.size w w' := by
  obtain ⟨⟨a, b, h1⟩, ⟨c, d, h2⟩⟩ := he
  cases hr : Lib.parseUintB 64 s.data.toList with
  | ok u => exact absurd hr (h u)
  | range =>
    refine (Any.strconv_ParseUint_10_at64_range_var Tryz.laysPu14 s (by omega) hr c d w h2).mono ?_
    rintro e w' ⟨N, rfl, _, _, hb⟩
    exact ⟨_, N, rfl, hb⟩
  | _ =>
    refine (Any.strconv_ParseUint_10_at64_syntax_var Tryz.laysPu14 s (by omega) hr a b w h1).mono ?_
    rintro e w' ⟨N, rfl, _, _, hb⟩
    exact ⟨0, N, rfl, hb⟩
set_option maxHeartbeats 400000 in
set_option maxRecDepth 100000 in
theorem undec_any (s : ByteArray) (w : World) (hs : s.size ≤ 1000000) (ht : Tab w) (he : Errs w) :
    Calls Tryz.prog 108 #[.string s] w fun e w' => e = .returned (udV (Dd.und s.data.toList)) ∧ Below w.heap.size w w' := by
  have HT := hideIt ht
  by_cases hex : ∃ u, Lib.parseUintB 64 s.data.toList = .ok u
  · obtain ⟨u, hu⟩ := hex
    have hne : s.data.toList ≠ [] := fun e => by rw [e] at hu; cases hu
    have hul : u < 18446744073709551616 := by
      have h2 := hu
      rw [Dd.B64 _ hne] at h2
      have := (Dd.parse_ok _ 0 u (by unfold Dd.M; omega) h2).2.2
      unfold Dd.M at this
      omega
    have u64 : (u : Int) < 18446744073709551616 := by omega
    have HP := hideIt (fun w => parse_fine s u w hs hu)
    have HD := hideIt (fun w h => dec_any u w hul h)
    obtain ⟨x, hx⟩ : ∃ x, bs (Lib.decDigits u) = x := ⟨_, rfl⟩
    rw [hx] at HD
    by_cases hq : Lib.decDigits u = s.data.toList
    · have hxs : x = s := by rw [← hx, hq, bs_data]
      subst hxs
      have HE : Hid (Dd.und x.data.toList = some u) := hideIt (by unfold Dd.und; rw [hu]; simp only; rw [if_pos hq])
      have n1 : (x.toList == x.toList) = true := by simp
      have n2 : (x.toList != x.toList) = false := by simp
      clear hu hx hq ht he hne
      go_enter Tryz.func108, Tryz.ntmps108
      go_wp2_with (first | (go_at_call 131; refine (HP.out _).mono ?_; rintro e w1 ⟨rfl, hb1⟩) | (go_at_call 132; refine (HD.out _ (tab_below hb1 HT.out)).mono ?_; rintro e w2 ⟨rfl, hb2⟩))
      go_ret2
      exact ⟨by rw [HE.out]; rfl, below2 hb1 hb2⟩
    · have HE : Hid (Dd.und s.data.toList = none) := hideIt (by unfold Dd.und; rw [hu]; simp only; rw [if_neg hq])
      have n1 : (x.toList == s.toList) = false := by rw [ByteArray.toList_eq, ByteArray.toList_eq, ← hx, bs_list]; simpa using hq
      have n2 : (x.toList != s.toList) = true := by rw [bne, n1]; rfl
      clear hu hx hq ht he hne
      go_enter Tryz.func108, Tryz.ntmps108
      go_wp2_with (first | (go_at_call 131; refine (HP.out _).mono ?_; rintro e w1 ⟨rfl, hb1⟩) | (go_at_call 132; refine (HD.out _ (tab_below hb1 HT.out)).mono ?_; rintro e w2 ⟨rfl, hb2⟩))
      go_ret2
      exact ⟨by rw [HE.out]; rfl, below2 hb1 hb2⟩
  · have HP := hideIt (parse_bad s w hs he (fun u h => hex ⟨u, h⟩))
    have HE : Hid (Dd.und s.data.toList = none) := hideIt (by
      unfold Dd.und
      cases hr : Lib.parseUintB 64 s.data.toList with
      | ok u => exact absurd ⟨u, hr⟩ hex
      | _ => rfl)
    clear hex ht he
    go_enter Tryz.func108, Tryz.ntmps108
    go_wp2_with (first | (go_at_call 131; refine HP.out.mono ?_; rintro e w1 ⟨z, N, rfl, hb1⟩))
    go_ret2
    exact ⟨by rw [HE.out]; rfl, hb1⟩
end Go.Proofs.YtdbbgpcjclmelaaGreatDoor.Cb
