/- Packs: bounds; the waking test; so many items, and no more: walked. -/
import Derived.Test.YtjiigdjopcegeaaDoorPkKy
import Derived.Test.YtjiigdjopcegeaaDoorLdAwk4
import Derived.Laws.MakeOwn
namespace Go.Proofs.YtjiigdjopcegeaaDoor.Pk
open Cb Ld Go.RowKit Go.Shelf
theorem press_small (d : List UInt8) (h : d.length ≤ 400) : (Lz.press d).length ≤ 1608 := by
  have a1 := numL_small d.length (by omega)
  have a2 := Lz.tell_len d 0 0 (by omega) (Nat.le_refl _) (by omega)
  rw [Lz.press, List.length_append]
  omega
/-- Items that are not too long. -/
def Small (l : List It) : Prop := ∀ x ∈ l, x.d.length ≤ 400 ∧ x.b.length ≤ 40
theorem item_small (x : It) (h : x.d.length ≤ 400 ∧ x.b.length ≤ 40) : (itemL x).length ≤ 1660 := by
  have h1 := press_small x.d h.1
  have h2 := num_le (Lz.press x.d).length (by omega)
  have h3 : (headL x.b).length ≤ 41 := by
    unfold headL
    split
    · simp
    · simp; omega
  rw [itemL, List.length_append, List.length_append]
  omega
theorem items_small : ∀ (l : List It), Small l → (itemsL l).length ≤ 1660 * l.length
  | [], _ => by simp [itemsL]
  | x :: l, h => by
    have h1 := item_small x (h x (by simp))
    have h2 := items_small l (fun y hy => h y (by simp [hy]))
    rw [itemsL, List.length_append, List.length_cons]
    omega
theorem body_small (l : List It) (h : Small l) (hl : l.length ≤ 2048) : (bodyL l).length ≤ 4194272 := by
  have h1 := items_small l h
  have h2 := num_le l.length (by omega)
  have h3 : titleL.length = 13 := rfl
  rw [bodyL, List.length_append, List.length_append]
  omega
theorem data_small : ∀ (l : List It), Small l → dataN l ≤ 400 * l.length
  | [], _ => by simp [dataN]
  | x :: l, h => by
    have h1 := (h x (by simp)).1
    have h2 := data_small l (fun y hy => h y (by simp [hy]))
    rw [dataN, List.length_cons]
    omega
theorem ok_small {l : List It} (h : Small l) (ha : allOk l = true) : ItemsOk l := by
  intro x hx
  rw [allOk, List.all_eq_true] at ha
  have hb : baseOk x := by simpa using ha x hx
  have hd := (h x hx).1
  exact ⟨hb, by omega, by have := press_small x.d hd; omega⟩
/-- What is built of such items is scanned again. -/
theorem scan_back {sp : List UInt8 → Nat × List UInt8} (hsp : Spreads sp) {l : List It} (h : Small l) (hl : l.length ≤ 2048) (ha : allOk l = true) : scn sp (packL l) = (0, placed (13 + (Cd.numL l.length).length) l) :=
  scn_pack hsp l (ok_small h ha) hl (by have := data_small l h; omega) (body_small l h hl)
theorem pack_len (l : List It) (h : Small l) (hl : l.length ≤ 2048) : (packL l).length ≤ 10000000 := by
  have := body_small l h hl
  rw [(pack_parts l).1]
  omega
theorem one_row (w : World) (x : It) (t : TypeId) : IRow (w.alloc (.cells #[.string (bs x.b), .string (bs x.d), .int .i64 x.pl] t)) (.slice (some ⟨w.heap.size, 0, none⟩) 1 1) [x] := by
  refine ⟨_, 1, rfl, by simp, ⟨by unfold maxLen; omega, fun h => by cases h⟩, fun _ => ⟨w.heap.size, 0, rfl, by simp, fun i y hy => ?_⟩⟩
  have h := alloc_at (w := w) (o := .cells #[.string (bs x.b), .string (bs x.d), .int .i64 x.pl] t) rfl
  match i, hy with
  | 0, hy =>
    simp at hy
    subst hy
    exact ⟨cellAt h rfl, cellAt h rfl, cellAt h rfl⟩
  | i + 1, hy => simp at hy
def wakeL : List It := [⟨[], [116, 101, 120, 116], 0⟩]
theorem wake_small : Small wakeL := by
  intro x hx
  simp only [wakeL, List.mem_singleton] at hx
  subst hx
  exact ⟨by simp, by simp⟩
theorem wake_placed : placed (13 + (Cd.numL wakeL.length).length) wakeL = [⟨[], [116, 101, 120, 116], 14⟩] := by
  have : Cd.numL wakeL.length = [UInt8.ofNat 1] := Lz.numL_tiny (by decide)
  rw [this]
  rfl
set_option maxHeartbeats 1600000 in
set_option maxRecDepth 100000 in
theorem awake_any (w : World) (hK : Sa.KAt w) : Calls Tryd.prog 9 #[] w fun e w' => e = .returned (.bool true) ∧ Below w.heap.size w w' := by
  obtain ⟨W, hW⟩ : ∃ W, w.alloc (.cells #[.string ⟨#[]⟩, .string ⟨#[116, 101, 120, 116]⟩, .int .i64 0] 37) = W := ⟨_, rfl⟩
  have HBW : Hid (Below w.heap.size w W) := hideIt (by rw [← hW]; exact (Below.refl _ _).alloc (Nat.le_refl _) _)
  have hrow : IRow W (.slice (some ⟨w.heap.size, 0, none⟩) 1 1) wakeL := by rw [← hW]; exact one_row w ⟨[], [116, 101, 120, 116], 0⟩ 37
  have HKW := hideIt (fun w' (hb : Below w.heap.size w w') => Sa.K_below hb (Sa.K_pos hK) hK)
  have HBU := hideIt (build_any _ wakeL W hrow (HKW.out W HBW.out) (by decide) (fun x hx => by have := (wake_small x hx).1; omega) (body_small _ wake_small (by decide)))
  have hv : bldV wakeL = .tuple #[.string (bs (packL wakeL)), .int .i64 0] := by rw [bldV, show allOk wakeL = true from rfl, if_pos rfl]
  rw [hv] at HBU
  have HSC := hideIt (fun w hk => scan_any (packL wakeL) w hk (pack_len _ wake_small (by decide)))
  rw [scan_back spreads_P wake_small (by decide) rfl, wake_placed] at HSC
  generalize bs (packL wakeL) = P at HBU HSC
  clear hrow hv hK
  go_enter Tryd.func9, Tryd.ntmps9
  go_wp2_with (first
    | (go_at_call 7; refine HBU.out.mono ?_; rintro e w1 ⟨rfl, hb1⟩; have B1 := hideIt (below2 HBW.out hb1))
    | (go_at_call 10; refine (HSC.out _ (HKW.out _ B1.out)).mono ?_; rintro e w2 ⟨v, rfl, hv1, hv2⟩; have B2 := hideIt (below2 B1.out hv2); obtain ⟨av, cv, rfl, hle, hcm, hr⟩ := IRow.of_row hv1; obtain ⟨g, o, rfl, hc⟩ := hr (by simp); obtain ⟨c0, c1, c2⟩ := hc.2 0 _ rfl; simp only [Nat.zero_mul, Nat.add_zero] at c0 c1 c2; rw [show bs ([] : List UInt8) = (⟨#[]⟩ : ByteArray) from rfl] at c0; rw [show bs [116, 101, 120, 116] = (⟨#[116, 101, 120, 116]⟩ : ByteArray) from rfl] at c1; clear hv1 hv2 hc hr hle hcm))
  go_ret
  exact ⟨rfl, B2.out⟩
theorem i64_and3 (n : Int) : bits .and .i64 n 3 = n % 4 := by
  have h3 : (BitVec.ofInt 64 3).toNat = 2 ^ 2 - 1 := by decide
  have key : (BitVec.ofInt 64 n &&& BitVec.ofInt 64 3).toNat = (n % ((2 ^ 64 : Nat) : Int)).toNat % 2 ^ 2 := by
    rw [BitVec.toNat_and, BitVec.toNat_ofInt, h3, Nat.and_two_pow_sub_one_eq_mod]
  show IntKind.i64.wrap ((BitVec.ofInt 64 n &&& BitVec.ofInt 64 3).toNat : Nat) = n % 4
  rw [key, IntKind.wrap_i64]
  omega
def noIt : It := ⟨[], [], 0⟩
theorem made_at (k i j : Nat) (hi : i < k) (hj : j < 3) : (madeCells #[Value.string ⟨#[]⟩, .string ⟨#[]⟩, .int .i64 0] (k * 3))[i * 3 + j]? = some ((#[Value.string ⟨#[]⟩, .string ⟨#[]⟩, .int .i64 0] : Array Value)[j]!) := by
  have hlt : i * 3 + j < k * 3 := by omega
  simp only [madeCells, Array.getElem?_map]
  rw [Array.getElem?_range]
  simp only [hlt, if_true, Option.map_some]
  have : (i * 3 + j) % 3 = j := by omega
  simp only [List.size_toArray, List.length_cons, List.length_nil, Nat.zero_add, Nat.reduceAdd, this]
theorem made_row (w : World) (k : Nat) (hk : k ≤ 1000000) (t : TypeId) : IRow (w.alloc (.cells (madeCells #[.string ⟨#[]⟩, .string ⟨#[]⟩, .int .i64 0] (k * 3)) t)) (.slice (some ⟨w.heap.size, 0, none⟩) k k) (List.replicate k noIt) := by
  refine ⟨some ⟨w.heap.size, 0, none⟩, k, by simp, by simp, ⟨by unfold maxLen; omega, fun h => by cases h⟩, fun _ => ⟨w.heap.size, 0, rfl, by simp, fun i y hy => ?_⟩⟩
  have h := alloc_at (w := w) (o := .cells (madeCells #[.string ⟨#[]⟩, .string ⟨#[]⟩, .int .i64 0] (k * 3)) t) rfl
  obtain ⟨hi, rfl⟩ := List.getElem?_eq_some_iff.1 hy
  have hi' : i < k := by simpa using hi
  rw [List.getElem_replicate]
  refine ⟨cellAt h ?_, cellAt h ?_, cellAt h ?_⟩
  · rw [Nat.zero_add]; exact made_at k i 0 hi' (by omega)
  · rw [Nat.zero_add]; exact made_at k i 1 hi' (by omega)
  · rw [Nat.zero_add]; exact made_at k i 2 hi' (by omega)
theorem rep_small (k : Nat) : Small (List.replicate k noIt) := by
  intro x hx
  obtain ⟨_, rfl⟩ := List.mem_replicate.1 hx
  exact ⟨by simp [noIt], by simp [noIt]⟩
theorem rep_ok (k : Nat) : allOk (List.replicate k noIt) = true := by
  rw [allOk, List.all_eq_true]
  intro x hx
  obtain ⟨_, rfl⟩ := List.mem_replicate.1 hx
  rfl
set_option maxHeartbeats 400000 in
theorem build_much (a : Option Addr) (n c : Nat) (w : World) (h : 2048 < n) : Calls Tryd.prog 7 #[.slice a n c] w fun e w' => e = .returned (.tuple #[.string ⟨#[]⟩, .int .i64 3]) ∧ w' = w := by
  have h1 : (2048 : Int) < (n : Int) := by omega
  have h2 : decide ((2048 : Int) < (n : Int)) = true := decide_eq_true h1
  go_enter Tryd.func7, Tryd.ntmps7
  go_wp2
  go_ret2
  exact ⟨rfl, rfl⟩
set_option maxHeartbeats 1600000 in
set_option maxRecDepth 100000 in
theorem most_law (n : Int) (w : World) (hK : Sa.KAt w) : Calls Tryd.prog 5 #[.int .i64 n] w fun e w' => e = .returned (.bool true) ∧ Below w.heap.size w w' := by
  obtain ⟨i0, hi0, hz0, hz1, hz2⟩ := info_parts infoI
  obtain ⟨j, hj, hj4⟩ : ∃ j : Nat, n % 4 = (j : Int) ∧ j < 4 := ⟨(n % 4).toNat, by omega, by omega⟩
  have b1 := i64_and3 n
  rw [hj] at b1
  obtain ⟨k, hk⟩ : ∃ k, 2046 + j = k := ⟨_, rfl⟩
  have k1 : 2046 + (j : Int) = (k : Int) := by omega
  have kI : (k : Int) ≤ 2049 := by omega
  have kN : k ≤ 2049 := by omega
  have hr := fun ty => run_make (P := Tryd.prog) w ty 37 i0 (.agg #[.string ⟨#[]⟩, .string ⟨#[]⟩, .int .i64 0])
  have hmk := run_make (P := Tryd.prog) w 22 37 i0 (.agg #[.string ⟨#[]⟩, .string ⟨#[]⟩, .int .i64 0]) Tryd.underlying22 hi0 hz0 .i64 .i64 (k : Int) (k : Int) (by omega) (by omega) (by rw [hz2]; omega) (by omega)
  rw [hz1] at hmk
  simp only [Int.toNat_natCast] at hmk
  obtain ⟨W, hW⟩ : ∃ W, w.alloc (.cells (madeCells #[.string ⟨#[]⟩, .string ⟨#[]⟩, .int .i64 0] (k * 3)) 37) = W := ⟨_, rfl⟩
  have hmk2 : (Instr.makeSlice 22 (.int .i64 (k : Int)) (.int .i64 (k : Int))).run Tryd.prog w = .ok (.slice (some ⟨w.heap.size, 0, none⟩) k k) W := by rw [← hW]; exact hmk
  have HBW : Hid (Below w.heap.size w W) := hideIt (by rw [← hW]; exact (Below.refl _ _).alloc (Nat.le_refl _) _)
  have HKW := hideIt (fun w' (hb : Below w.heap.size w w') => Sa.K_below hb (Sa.K_pos hK) hK)
  have HA := hideIt (awake_any)
  have hrow : IRow W (.slice (some ⟨w.heap.size, 0, none⟩) k k) (List.replicate k noIt) := by rw [← hW]; exact made_row w k (by omega) _
  by_cases hbig : 2048 < k
  · have g1 : (2048 : Int) < (k : Int) := by omega
    have g2 : decide ((2048 : Int) < (k : Int)) = true := decide_eq_true g1
    have HBU := hideIt (fun w => build_much (some ⟨W.heap.size, 0, none⟩) k k w hbig)
    have HBM := hideIt (fun a w => build_much a k k w hbig)
    clear hr hmk hrow hj hW hK hk HBU
    go_enter Tryd.func5, Tryd.ntmps5
    go_wp2_with (first
      | (go_at_call 7; refine (HBM.out _ _).mono ?_; rintro e wx ⟨rfl, hwx⟩; obtain rfl := hwx.symm)
      | (go_at_call 9; refine (HA.out _ (HKW.out _ HBW.out)).mono ?_; rintro e w2 ⟨rfl, hb2⟩))
    go_ret
    exact ⟨rfl, below2 HBW.out hb2⟩
  · have g1 : ¬ (2048 : Int) < (k : Int) := by omega
    have g2 : decide ((2048 : Int) < (k : Int)) = false := decide_eq_false g1
    have hl : (List.replicate k noIt).length ≤ 2048 := by simp; omega
    have HBU := hideIt (build_any _ (List.replicate k noIt) W hrow (HKW.out W HBW.out) hl (fun x hx => by have := (rep_small k x hx).1; omega) (body_small _ (rep_small k) hl))
    have hv : bldV (List.replicate k noIt) = .tuple #[.string (bs (packL (List.replicate k noIt))), .int .i64 0] := by rw [bldV, rep_ok k, if_pos rfl]
    rw [hv] at HBU
    have HSC := hideIt (fun w hk => scan_any (packL (List.replicate k noIt)) w hk (pack_len _ (rep_small k) hl))
    rw [scan_back spreads_P (rep_small k) hl (rep_ok k)] at HSC
    have hpl : (placed (13 + (Cd.numL (List.replicate k noIt).length).length) (List.replicate k noIt)).length = k := by rw [placed_len]; simp
    generalize bs (packL (List.replicate k noIt)) = P at HBU HSC
    generalize placed (13 + (Cd.numL (List.replicate k noIt).length).length) (List.replicate k noIt) = PL at HSC hpl
    have HPL := hideIt hpl
    clear hr hmk hrow hj hW hK hk hv hl hpl
    go_enter Tryd.func5, Tryd.ntmps5
    go_wp2_with (first
      | (go_at_call 7; refine HBU.out.mono ?_; rintro e w1 ⟨rfl, hb1⟩; have B1 := hideIt (below2 HBW.out hb1))
      | (go_at_call 10; refine (HSC.out _ (HKW.out _ B1.out)).mono ?_; rintro e w2 ⟨v, rfl, hv1, hv2⟩; have B2 := hideIt (below2 B1.out hv2); obtain ⟨av, cv, rfl, hle, hcm, hr⟩ := IRow.of_row hv1; simp only [HPL.out]; clear hv1 hv2 hr hle hcm)
      | (go_at_call 9; refine (HA.out _ (HKW.out _ B2.out)).mono ?_; rintro e w3 ⟨rfl, hb3⟩))
    go_ret
    exact ⟨rfl, below2 B2.out hb3⟩
end Go.Proofs.YtjiigdjopcegeaaDoor.Pk
