/- Indexes: an id that stands twice; the law's waking test; nil indexes: walked. -/
import Derived.Test.YtllpfpbpdgpnkaaDoorIxYd
import Derived.Test.YtllpfpbpdgpnkaaDoorSaRef
import Derived.Test.YtllpfpbpdgpnkaaDoorSaSabc
namespace Go.Proofs.YtllpfpbpdgpnkaaDoor.Ix
open Cb Go.RowKit Go.Shelf
set_option maxHeartbeats 800000 in
set_option maxRecDepth 100000 in
theorem new_twice (pack : ByteArray) (v : Value) (l : List Sp) (w : World) (h : SRow w v l) (hp : pack.size = 32) (hl : l.length ≤ 2048) (hw : l.any wrong = false) (hm : srtF [] l = none) : Calls Tryd.prog 8 #[.string pack, v] w fun e w' => e = .returned (.tuple #[.pointer none, .int .i64 1]) ∧ Below w.heap.size w w' := by
  have hwx : ∀ x ∈ l, wrong x = false := fun x hx => by
    have := List.any_eq_false.1 hw x hx
    simpa using this
  have HC := hideIt (containsFunc_any v l w h)
  rw [hw] at HC
  have HS := hideIt (fun w' (hb : Below w.heap.size w w') => sorted_any v l w' (h.below hb) (by omega) (fun x hx => by have := wrong_size (hwx x hx); omega))
  have HMM : Hid (∀ m2, m2.Perm l → WUp m2 → twiceL m2 = true ∧ m2.length ≤ 1000000) := hideIt (fun m2 h1 h2 => by
    have := sorted_is hwx h1 h2
    rw [hm] at this
    refine ⟨?_, by rw [h1.length_eq]; omega⟩
    cases ht : twiceL m2 with
    | true => rfl
    | false => rw [ht, if_neg (by simp)] at this; cases this)
  have HTW := hideIt (fun v m w h hl => twice_any v m w h hl)
  have hp1 : (pack.size : Int) = 32 := by omega
  have hp2 : ((pack.size : Int) != 32) = false := by simpa using hp1
  have hp3 : ((pack.size : Int) == 32) = true := by simpa using hp1
  obtain ⟨a, c, rfl, hlc, ⟨hcm, hnn⟩, hrow⟩ := h
  obtain ⟨n, hn⟩ : ∃ n, l.length = n := ⟨_, rfl⟩
  rw [hn] at hlc HC HS hl ⊢
  have n1 : ¬ (2048 : Int) < (n : Int) := by omega
  have n2 : decide ((2048 : Int) < (n : Int)) = false := decide_eq_false n1
  clear hw hwx hm hrow hnn hcm hn hp
  go_enter Tryd.func8, Tryd.ntmps8
  go_wp2_with (first
    | (go_at_call 19; refine HC.out.mono ?_; rintro e w1 ⟨rfl, hb1⟩; have B1 := hideIt hb1; clear hb1)
    | (go_at_call 21; refine (HS.out _ B1.out).mono ?_; rintro e w2 ⟨v2, m2, rfl, hr2, hp2', hu2, hb2⟩; obtain ⟨ht2, hl2⟩ := HMM.out m2 hp2' hu2; have B2 := hideIt (below2 B1.out hb2); have T2 := hideIt (HTW.out _ m2 w2 hr2 hl2); rw [ht2] at T2; clear hr2 hp2' hu2 hb2 ht2 hl2)
    | (go_at_call 22; refine T2.out.mono ?_; rintro e w3 ⟨rfl, hb3⟩; have B3 := hideIt (below2 B2.out hb3); clear hb3))
  go_ret2
  exact ⟨rfl, B3.out⟩
abbrev sA : ByteArray := Sa.Sha.taSum
abbrev sB : ByteArray := Sa.Sha.tbSum
abbrev sC : ByteArray := Sa.Sha.tcSum
theorem ref_a (w : World) : Calls Tryd.prog 14 #[.string ⟨#[97]⟩] w fun e w' => e = .returned (.string sA) ∧ Below w.heap.size w w' := by
  have := Sa.ref_any ⟨#[97]⟩ w (by decide)
  rw [show (⟨#[97]⟩ : ByteArray).data.toList = [97] from rfl, Sa.Sha.ta_is] at this
  exact this
theorem ref_b (w : World) : Calls Tryd.prog 14 #[.string ⟨#[98]⟩] w fun e w' => e = .returned (.string sB) ∧ Below w.heap.size w w' := by
  have := Sa.ref_any ⟨#[98]⟩ w (by decide)
  rw [show (⟨#[98]⟩ : ByteArray).data.toList = [98] from rfl, Sa.Sha.tb_is] at this
  exact this
theorem ref_c (w : World) : Calls Tryd.prog 14 #[.string ⟨#[99]⟩] w fun e w' => e = .returned (.string sC) ∧ Below w.heap.size w w' := by
  have := Sa.ref_any ⟨#[99]⟩ w (by decide)
  rw [show (⟨#[99]⟩ : ByteArray).data.toList = [99] from rfl, Sa.Sha.tc_is] at this
  exact this
def abL : List Sp := [⟨sA, 7⟩, ⟨sB, 9⟩]
def abM : List Sp := [⟨sB, 9⟩, ⟨sA, 7⟩]
theorem less_ba : less sB sA = true := by
  rw [less, ByteArray.toList_eq, ByteArray.toList_eq]
  decide +kernel
theorem ne_ab : ¬ sB = sA := fun e => by have := less_ba; rw [e, less_irrefl] at this; cases this
theorem ne_c : ¬ sB = sC ∧ ¬ sA = sC := by
  constructor
  · intro e
    have := congrArg (fun x : ByteArray => x.data.toList) e
    revert this
    decide +kernel
  · intro e
    have := congrArg (fun x : ByteArray => x.data.toList) e
    revert this
    decide +kernel
theorem ab_right : Right abM := by
  intro x hx
  simp [abM] at hx
  rcases hx with rfl | rfl <;> decide +kernel
theorem ab_up : Up abM := List.pairwise_cons.2 ⟨fun y hy => by simp at hy; subst hy; exact less_ba, List.pairwise_singleton _ _⟩
theorem ab_sorted : srtF [] abL = some abM := by
  have hw : ∀ x ∈ abL, wrong x = false := fun x hx => ab_right x (by simp [abL, abM] at hx ⊢; exact hx.symm)
  have hp : abM.Perm abL := List.Perm.swap _ _ _
  have hs : WUp abM := List.Pairwise.imp (fun {a b} h => less_asymm h) ab_up
  rw [sorted_is hw hp hs, (twice_up abM hs).2 ab_up]
  rfl
theorem ab_look : fndV (look abM sA) = .tuple #[.int .i64 7, .bool true] ∧ fndV (look abM sC) = .tuple #[.int .i64 0, .bool false] := by
  constructor
  · rw [show sA = (⟨sA, 7⟩ : Sp).d from rfl, look_some ab_up (by simp [abM])]
    rfl
  · rw [look_none (fun x hx => ?_)]
    · rfl
    · simp [abM] at hx
      rcases hx with rfl | rfl
      · exact ne_c.1
      · exact ne_c.2
theorem ab_row (w : World) : SRow (w.alloc (.cells #[.string sA, .int .i64 7, .string sB, .int .i64 9] 38)) (.slice (some ⟨w.heap.size, 0, none⟩) 2 2) abL := by
  have hrow : (w.alloc (.cells #[.string sA, .int .i64 7, .string sB, .int .i64 9] 38)).heap[w.heap.size]? = some (.cells #[.string sA, .int .i64 7, .string sB, .int .i64 9] 38 (0, 0)) := alloc_at rfl
  refine ⟨_, 2, rfl, by simp [abL], ⟨by unfold maxLen; omega, fun h => by cases h⟩, fun _ => ⟨_, _, rfl, block_lt hrow, fun i x hx => ?_⟩⟩
  match i, hx with
  | 0, hx => cases hx; exact ⟨cellAt hrow rfl, cellAt hrow rfl⟩
  | 1, hx => cases hx; exact ⟨cellAt hrow rfl, cellAt hrow rfl⟩
set_option maxHeartbeats 400000 in
set_option maxRecDepth 100000 in
theorem awake_gen (A B C : ByteArray) (m : List Sp) (w : World)
    (HA : Hid (∀ w : World, Calls Tryd.prog 14 #[.string ⟨#[97]⟩] w fun e w' => e = .returned (.string A) ∧ Below w.heap.size w w'))
    (HB : Hid (∀ w : World, Calls Tryd.prog 14 #[.string ⟨#[98]⟩] w fun e w' => e = .returned (.string B) ∧ Below w.heap.size w w'))
    (HC : Hid (∀ w : World, Calls Tryd.prog 14 #[.string ⟨#[99]⟩] w fun e w' => e = .returned (.string C) ∧ Below w.heap.size w w'))
    (HN : Hid (∀ w : World, Calls Tryd.prog 8 #[.string B, .slice (some ⟨w.heap.size, 0, none⟩) 2 2] (w.alloc (.cells #[.string A, .int .i64 7, .string B, .int .i64 9] 38)) fun e w' => NewTo (w.alloc (.cells #[.string A, .int .i64 7, .string B, .int .i64 9] 38)) B m e w'))
    (HF1 : Hid (∀ g w, IxAt w g B m → Calls Tryd.prog 16 #[.pointer (some ⟨g, 0, none⟩), .string A] w fun e w' => e = .returned (.tuple #[.int .i64 7, .bool true]) ∧ Below w.heap.size w w'))
    (HF2 : Hid (∀ g w, IxAt w g B m → Calls Tryd.prog 16 #[.pointer (some ⟨g, 0, none⟩), .string C] w fun e w' => e = .returned (.tuple #[.int .i64 0, .bool false]) ∧ Below w.heap.size w w'))
    (HAL : Hid (∀ g w, IxAt w g B m → Calls Tryd.prog 11 #[.pointer (some ⟨g, 0, none⟩)] w fun e w' => RowTo w m e w'))
    (HPK : Hid (∀ g w, IxAt w g B m → Calls Tryd.prog 18 #[.pointer (some ⟨g, 0, none⟩)] w fun e w' => e = .returned (.string B) ∧ w' = w))
    (HML : Hid (m.length = 2)) : Calls Tryd.prog 10 #[] w fun e w' => e = .returned (.bool true) ∧ Below w.heap.size w w' := by
  go_enter Tryd.func10, Tryd.ntmps10
  go_wp2_with (first
    | (go_at_call_of 14 (Value.string ⟨#[97]⟩); refine (HA.out _).mono ?_; rintro e w1 ⟨rfl, hb1⟩; have B1 := hideIt hb1; clear hb1)
    | (go_at_call_of 14 (Value.string ⟨#[98]⟩); refine (HB.out _).mono ?_; rintro e w2 ⟨rfl, hb2⟩; have B2 := hideIt (below2 B1.out hb2); clear hb2)
    | (go_at_call_of 14 (Value.string ⟨#[99]⟩); refine (HC.out _).mono ?_; rintro e w5 ⟨rfl, hb5⟩; have B5 := hideIt (below2 B4.out hb5); have I5 := hideIt (I4.out.below hb5); clear hb5)
    | (go_at_call 8; refine (HN.out w2).mono ?_; rintro e w3 ⟨g, rfl, hi3, hb3⟩; have B3 := hideIt (below2 (below2 B2.out ((Below.refl _ _).alloc (Nat.le_refl _) _)) hb3); have I3 := hideIt hi3; clear hb3 hi3)
    | (go_at_call_of 16 (Value.string A); refine (HF1.out g w3 I3.out).mono ?_; rintro e w4 ⟨rfl, hb4⟩; have B4 := hideIt (below2 B3.out hb4); have I4 := hideIt (I3.out.below hb4); clear hb4)
    | (go_at_call_of 16 (Value.string C); refine (HF2.out g w5 I5.out).mono ?_; rintro e w6 ⟨rfl, hb6⟩; have B6 := hideIt (below2 B5.out hb6); have I6 := hideIt (I5.out.below hb6); clear hb6)
    | (go_at_call 18; refine (HPK.out g w6 I6.out).mono ?_; rintro e wx ⟨rfl, hwx⟩; obtain rfl := hwx.symm)
    | (go_at_call 11; refine (HAL.out g _ I6.out).mono ?_; rintro e w7 ⟨v7, rfl, hr7, hb7⟩; obtain ⟨av, cv, rfl, _, _, _⟩ := hr7; rw [HML.out]; have B7 := hideIt (below2 B6.out hb7); clear hb7))
  go_ret
  exact ⟨rfl, B7.out⟩
theorem awake_any (w : World) : Calls Tryd.prog 10 #[] w fun e w' => e = .returned (.bool true) ∧ Below w.heap.size w w' := by
  refine awake_gen sA sB sC abM w (hideIt ref_a) (hideIt ref_b) (hideIt ref_c) (hideIt (fun w => new_ok sB (.slice (some ⟨w.heap.size, 0, none⟩) 2 2) abL abM _ (ab_row w) (by decide +kernel) (by simp [abL]) ab_sorted)) (hideIt (fun g w h => ?_)) (hideIt (fun g w h => ?_)) (hideIt (fun g w h => all_any g sB abM w h (by simp [abM]))) (hideIt (fun g w h => pack_any g sB abM w h)) (hideIt rfl)
  · have := find_any g sB abM sA w h ab_up ab_right (by simp [abM])
    rw [ab_look.1] at this
    exact this
  · have := find_any g sB abM sC w h ab_up ab_right (by simp [abM])
    rw [ab_look.2] at this
    exact this
set_option maxHeartbeats 800000 in
set_option maxRecDepth 100000 in
theorem none_law (id : ByteArray) (w : World) (_ : Sa.KAt w) : Calls Tryd.prog 6 #[.string id] w fun e w' => e = .returned (.bool true) ∧ Below w.heap.size w w' := by
  have HF := hideIt (find_nil id)
  have HN := hideIt (fun v w => new_pack ⟨#[110, 111, 32, 115, 117, 109]⟩ v w (by decide))
  have HA := hideIt awake_any
  go_enter Tryd.func6, Tryd.ntmps6
  go_wp2_with (first
    | (go_at_call 16; refine (HF.out _).mono ?_; rintro e wx ⟨rfl, hwx⟩; obtain rfl := hwx.symm)
    | (go_at_call 8; refine (HN.out _ _).mono ?_; rintro e wx ⟨rfl, hwx⟩; obtain rfl := hwx.symm)
    | (go_at_call 10; refine (HA.out _).mono ?_; rintro e w1 ⟨rfl, hb1⟩)
    | (go_at_call 12; refine (encode_nil _).mono ?_; rintro e wx ⟨rfl, hwx⟩; obtain rfl := hwx.symm)
    | (go_at_call 18; refine (pack_nil _).mono ?_; rintro e wx ⟨rfl, hwx⟩; obtain rfl := hwx.symm)
    | (go_at_call 11; refine (all_nil _).mono ?_; rintro e wx ⟨rfl, hwx⟩; obtain rfl := hwx.symm))
  go_ret
  exact ⟨rfl, hb1⟩
end Go.Proofs.YtllpfpbpdgpnkaaDoor.Ix
