/- The blocks of a text, gone over by a function that is ranged over; the place where each first is one: walked. -/
import Derived.RangeFuncNested
import Derived.RangeFuncBound
import Derived.RangeFuncCalls
import Derived.RangeFuncLeaves
import Derived.RangeFuncWrites
import Derived.RangeFuncBox
import Derived.Shelf.Abstract
import Derived.Shelf.RegionOpen
import Derived.WalkKit
import Derived.OwnWalkIn
import Derived.TacticsInMore
import Derived.LoopNIn
import Derived.LoopIn
import Derived.Maps.OwnIn
import Derived.Maps.Views
import Derived.Test.YtdbbgpcjclmelaaGreatDoorDeDma
namespace Go.Proofs.YtdbbgpcjclmelaaGreatDoor.De
open Cb
open Go.RowKit Go.Shelf
attribute [local go_sem] Oper.semAt_some
/-- A place and a block. -/
abbrev Blk := { p : Nat × ByteArray // p.1 ≤ 100000000 ∧ p.2.size ≤ 100000000 }
abbrev blkE (x : Blk) : Array Value := #[.int .i64 (x.1.1 : Int), .string x.1.2]
theorem cut_size (s : ByteArray) (i j : Nat) (h : s.size ≤ 100000000) : (s.extract i j).size ≤ 100000000 := by
  rw [ByteArray.size_extract]; omega
/-- The block with a number. -/
def blkN (s : ByteArray) (hs : s.size ≤ 100000000) (k : Nat) : Blk := if h : 16 * k ≤ s.size then ⟨(16 * k, s.extract (16 * k) (16 * k + 16)), by simp only; omega, cut_size s _ _ hs⟩ else ⟨(0, ⟨#[]⟩), by simp only; omega, by simp [ByteArray.size]⟩
theorem blkN_val {s : ByteArray} {hs : s.size ≤ 100000000} {k : Nat} (h : 16 * k ≤ s.size) : (blkN s hs k).1 = (16 * k, s.extract (16 * k) (16 * k + 16)) := by rw [blkN, dif_pos h]
/-- The first so many blocks. -/
def blks (s : ByteArray) (hs : s.size ≤ 100000000) (k : Nat) : List Blk := (List.range k).map (blkN s hs)
theorem blks_succ (s : ByteArray) (hs : s.size ≤ 100000000) (k : Nat) : blks s hs (k + 1) = blks s hs k ++ [blkN s hs k] := by simp [blks, List.range_succ]
theorem blks_len (s : ByteArray) (hs : s.size ≤ 100000000) (k : Nat) : (blks s hs k).length = k := by simp [blks]
theorem blks_pre (s : ByteArray) (hs : s.size ≤ 100000000) {j k : Nat} (h : j ≤ k) : blks s hs j <+: blks s hs k := by
  refine List.IsPrefix.map _ ?_
  obtain ⟨d, rfl⟩ := Nat.le.dest h
  rw [List.range_add]
  exact List.prefix_append _ _
/-- What a round keeps: the text that is gone over. -/
def KpC (Bn : Nat) (W W' : World) : Prop := W'.cell? ⟨Bn, 0, none⟩ = W.cell? ⟨Bn, 0, none⟩
theorem KpC.t {Bn : Nat} {A B C : World} (h : KpC Bn A B) (k : KpC Bn B C) : KpC Bn A C := Eq.trans k h
theorem KpC.b {Bn n : Nat} (h : Bn < n) (W : World) (l : Nat) (o o' : Obj) (hl : n ≤ l) (_ : W.heap[l]? = some o) (_ : o.isCells = false) (_ : o.isWalk = false) : KpC Bn W (W.putObj l o') := by
  have : (W.putObj l o').heap[Bn]? = W.heap[Bn]? := by simp [World.putObj, show ¬ l = Bn by omega]
  simp only [KpC, World.cell?, this]
set_option maxRecDepth 100000 in
set_option maxHeartbeats 1000000 in
theorem blocks1_in (l Bn : Nat) (s : ByteArray) (hs : s.size ≤ 100000000) (m : Nat) (hm : s.size / 16 = m) (n : Nat) (hn : 1 ≤ n) (J Jx : List Blk → World → Prop)
    (hY : ∀ pre x W, J pre W → pre.length < m → YieldAt Fence.wide (n - 1) Tryz.prog l (blkE x) W fun e W' =>
      (e = .returned (.bool true) ∧ J (pre ++ [x]) W' ∧ KpC Bn W W') ∨ (e = .returned (.bool false) ∧ Jx (pre ++ [x]) W'))
    (W : World) (hBn : W.cell? ⟨Bn, 0, none⟩ = some (.string s)) (h0 : J [] W) :
    CallsIn Fence.wide n Tryz.prog 81 #[.func (.yield l) #[] #[], .pointer (some ⟨Bn, 0, none⟩)] W fun e W' => (∃ v, e = .returned v) ∧
      ((∃ ys, ys = blks s hs m ∧ J ys W') ∨ (∃ pre, pre <+: blks s hs m ∧ Jx pre W')) := by
  have si : (s.size : Int) ≤ 100000000 := by omega
  refine callsIn_of_wp Tryz.func81 rfl trivial ?_ rfl
  simp only [Tryz.ntmps81, List.size_toArray, List.length_cons, List.length_nil, Nat.reduceAdd, Nat.reduceSub, Array.replicate_succ, Array.replicate_zero, List.push_toArray, List.append_toArray, List.nil_append, List.cons_append]
  gi_wp2
  gi_loopw [3] (fun p wr => ∃ k : Nat, p = .int .i64 ((16 * k : Nat) : Int) ∧ k ≤ m ∧ wr.cell? ⟨Bn, 0, none⟩ = some (.string s) ∧ J (blks s hs k) wr) (fun p _ => s.size + 16 - (intOf p).toNat)
  case atStart => exact ⟨0, rfl, Nat.zero_le _, hBn, h0⟩
  case round =>
    obtain ⟨k, rfl, hk, hc, hJ⟩ := hrel
    obtain ⟨i, hi⟩ : ∃ i, 16 * k = i := ⟨_, rfl⟩
    rw [hi]
    obtain ⟨d, hd⟩ : ∃ d, s.size - i = d := ⟨_, rfl⟩
    have d1 : (s.size : Int) - (i : Int) = (d : Int) := by omega
    by_cases hlt : k < m
    · have c1 : (16 : Int) ≤ (d : Int) := by omega
      obtain ⟨j, hj⟩ : ∃ j, i + 16 = j := ⟨_, rfl⟩
      have j1 : (i : Int) + 16 = (j : Int) := by omega
      have j2 : (j : Int) ≤ (s.size : Int) := by omega
      have j3 : (i : Int) ≤ (j : Int) := by omega
      have j4 : (j : Int) ≤ 100000016 := by omega
      obtain ⟨fn, tmps, assign, body, hy, hR⟩ := hY (blks s hs k) (blkN s hs k) wr hJ (by rw [blks_len]; exact hlt)
      have ev := blkN_val (s := s) (hs := hs) (k := k) (by omega)
      simp only [blkE, ev, hi, hj] at hy
      have HD := hideIt (And.intro hi (And.intro hd hj))
      have HJ := hideIt hJ
      clear hi hd hj ev hJ
      gi_wp2
      refine hR.mono ?_
      rintro e W3 (⟨rfl, hJ3, hk3⟩ | ⟨rfl, hJx3⟩)
      · have hc3 : W3.cell? ⟨Bn, 0, none⟩ = some (.string s) := Eq.trans hk3 hc
        gi_wp2
        go_roundw
        case rel =>
          obtain ⟨a1, a2, a3⟩ := HD.out
          exact ⟨k + 1, by rw [show 16 * (k + 1) = j by omega], by omega, hc3, by rw [blks_succ]; exact hJ3⟩
        case measure => obtain ⟨a1, a2, a3⟩ := HD.out; simp [intOf]; omega
      · gi_wp2
        refine bodyPost_ret (results_none rfl _ _ _) rfl ?_
        exact ⟨⟨_, rfl⟩, .inr ⟨_, by rw [← blks_succ]; exact blks_pre s hs hlt, hJx3⟩⟩
    · have c1 : ¬ (16 : Int) ≤ (d : Int) := by omega
      obtain rfl : k = m := by omega
      have HJ := hideIt hJ
      clear hi hd hJ
      gi_wp2
      go_end0
      exact ⟨⟨_, rfl⟩, .inl HJ.out⟩
theorem blocks_stops (n : Nat) (hn : 1 ≤ n) (Bn : Nat) (s : ByteArray) (hs : s.size ≤ 100000000) (m : Nat) (hm : s.size / 16 = m) (w : World) (hBn : Bn < w.heap.size)
    (hc : w.cell? ⟨Bn, 0, none⟩ = some (.string s)) :
    SeqStopsK Fence.wide n Tryz.prog 81 #[.pointer (some ⟨Bn, 0, none⟩)] blkE (KpC Bn) (fun ys => ys = blks s hs m) (fun pre => pre <+: blks s hs m) m w := fun l J Jx W hW _ _ hY h0 =>
  blocks1_in l Bn s hs m hm n hn J Jx hY W ((hW.cell (p := ⟨Bn, 0, none⟩) hBn).trans hc) h0
set_option maxHeartbeats 1000000 in
theorem blocks_in (n : Nat) (s : ByteArray) (w : World) :
    CallsIn Fence.wide n Tryz.prog 56 #[.string s] w fun e w' => e = .returned (.func (.func 81) #[] #[.pointer (some ⟨w.heap.size, 0, none⟩)]) ∧ w' = w.alloc (.cells #[.string s] 9) := by
  refine callsIn_of_wp Tryz.func56 rfl trivial ?_ rfl
  simp only [Tryz.ntmps56, List.size_toArray, List.length_cons, List.length_nil, Nat.reduceAdd, Nat.reduceSub, Array.replicate_succ, Array.replicate_zero, List.push_toArray, List.append_toArray, List.nil_append, List.cons_append]
  gi_wp2
  go_ret
  exact ⟨rfl, rfl⟩
/-- The places as they are kept: a block that is there stays. -/
def key9 (p : ByteArray) : Lit := .string p.data.toList
theorem keyS9 (p : ByteArray) (h : p.size ≤ 100000000) : keyOf Tryz.prog 9 (.string p) = some (key9 p) := Go.WideMaps.keyOf_string_mk Tryz.underlying9 (by unfold maxLen; omega)
def putB (D : DataW Value) (x : Blk) : DataW Value := if Maps.has D (key9 x.1.2) then D else D.put (key9 x.1.2) (.lit (.int .i64 (x.1.1 : Int)))
def plD (xs : List Blk) : DataW Value := xs.foldl putB (.map [])
theorem plD_snoc (pre : List Blk) (x : Blk) : plD (pre ++ [x]) = putB (plD pre) x := by simp [plD]
theorem run_makeMap_hint (n : Int) (w : World) : (Instr.makeMap 59 (some (.int .i64 n))).run Tryz.prog w = .ok (.map (some w.heap.size)) (w.alloc (.map #[] 0)) := by
  simp [Instr.makeMap, underlying, Tryz.underlying59, asInt, go_sem]
/-- The first of so many blocks that these bytes are. -/
def fstB (B b : List UInt8) : Nat → Option Nat
  | 0 => none
  | k + 1 => match fstB B b k with
    | some p => some p
    | none => if Dl.six B (16 * k) = b then some (16 * k) else none
theorem fstB_mono {B b : List UInt8} {k p : Nat} (h : fstB B b k = some p) : ∀ d, fstB B b (k + d) = some p
  | 0 => h
  | d + 1 => by rw [← Nat.add_assoc, fstB, fstB_mono h d]
theorem fstB_blkF {B b : List UInt8} {n : Nat} (hn : B.length / 16 = n) : ∀ (f j : Nat), j ≤ n → n - j < f → fstB B b j = none → Dl.blkF B b f (16 * j) = fstB B b n
  | 0, _, _, h, _ => by omega
  | f + 1, j, hj, hf, h0 => by
    rw [Dl.blkF]
    by_cases h : j = n
    · subst h
      rw [if_neg (by omega), h0]
    · rw [if_pos (by omega)]
      have e1 : fstB B b (j + 1) = if Dl.six B (16 * j) = b then some (16 * j) else none := by rw [fstB, h0]
      by_cases hb : Dl.six B (16 * j) = b
      · rw [if_pos hb]
        rw [if_pos hb] at e1
        have := fstB_mono e1 (n - (j + 1))
        rw [show j + 1 + (n - (j + 1)) = n by omega] at this
        exact this.symm
      · rw [if_neg hb]
        rw [if_neg hb] at e1
        exact fstB_blkF hn f (j + 1) (by omega) (by omega) e1
theorem fstB_blk {B b : List UInt8} {n : Nat} (hn : B.length / 16 = n) : Dl.blk B b = fstB B b n := fstB_blkF hn _ 0 (Nat.zero_le _) (by omega) rfl
theorem plD_map : ∀ xs : List Blk, Maps.IsMap (plD xs) := by
  have : ∀ (xs : List Blk) (D : DataW Value), Maps.IsMap D → Maps.IsMap (xs.foldl putB D) := by
    intro xs
    induction xs with
    | nil => exact fun D h => h
    | cons x t ih =>
      intro D h
      refine ih _ ?_
      unfold putB
      split
      · exact h
      · exact h.put _ _
  exact fun xs => this xs _ ⟨_, rfl⟩
theorem key9_key (p : ByteArray) : WideAt.IsKeyLit (key9 p) := by unfold key9; trivial
/-- What the places tell of sixteen bytes. -/
theorem plD_look (s : ByteArray) (hs : s.size ≤ 100000000) (b : ByteArray) : ∀ k, 16 * k ≤ s.size →
    match fstB s.data.toList b.data.toList k with
    | none => Maps.has (plD (blks s hs k)) (key9 b) = false
    | some p => Maps.has (plD (blks s hs k)) (key9 b) = true ∧ (plD (blks s hs k)).atKey (key9 b) (.lit (.int .i64 0)) = .lit (.int .i64 (p : Int))
  | 0, _ => rfl
  | k + 1, hk => by
    have ih := plD_look s hs b k (by omega)
    have ev := blkN_val (s := s) (hs := hs) (k := k) (by omega)
    have esx : (s.extract (16 * k) (16 * k + 16)).data.toList = Dl.six s.data.toList (16 * k) := by
      rw [ByteArray.data_extract, Array.toList_extract, List.extract_eq_take_drop, Nat.add_sub_cancel_left]; rfl
    rw [blks_succ, plD_snoc, putB, ev]
    simp only
    rw [fstB]
    obtain ⟨X, hX⟩ : ∃ X, s.extract (16 * k) (16 * k + 16) = X := ⟨_, rfl⟩
    rw [hX] at esx ⊢
    by_cases he : Dl.six s.data.toList (16 * k) = b.data.toList
    · have hXb : key9 X = key9 b := by rw [key9, key9, esx, he]
      rw [hXb]
      cases hf : fstB s.data.toList b.data.toList k with
      | none =>
        rw [hf] at ih
        simp only at ih ⊢
        rw [if_pos he, ih, if_neg (by simp)]
        exact ⟨Maps.has_put_same (plD_map _) (key9_key b) _, Maps.atKey_put_same (plD_map _) (key9_key b) _ _⟩
      | some p =>
        rw [hf] at ih
        simp only at ih ⊢
        rw [ih.1, if_pos rfl]
        exact ih
    · have hXb : key9 b ≠ key9 X := by
        intro e
        rw [key9, key9] at e
        simp only [Lit.string.injEq] at e
        exact he (by rw [e, esx])
      rw [if_neg he]
      have hput : Maps.has (if Maps.has (plD (blks s hs k)) (key9 X) = true then plD (blks s hs k) else (plD (blks s hs k)).put (key9 X) (.lit (.int .i64 ((16 * k : Nat) : Int)))) (key9 b) = Maps.has (plD (blks s hs k)) (key9 b) := by
        split
        · rfl
        · exact Maps.has_put_other hXb _
      have hat : (if Maps.has (plD (blks s hs k)) (key9 X) = true then plD (blks s hs k) else (plD (blks s hs k)).put (key9 X) (.lit (.int .i64 ((16 * k : Nat) : Int)))).atKey (key9 b) (.lit (.int .i64 0)) = (plD (blks s hs k)).atKey (key9 b) (.lit (.int .i64 0)) := by
        split
        · rfl
        · exact Maps.atKey_put_other hXb _ _
      rw [hput, hat]
      cases hf : fstB s.data.toList b.data.toList k with
      | none => rw [hf] at ih; exact ih
      | some p => rw [hf] at ih; exact ih
set_option maxRecDepth 100000 in
set_option maxHeartbeats 2000000 in
theorem places_any (s : ByteArray) (w : World) (hs : s.size ≤ 100000000) :
    Calls Tryz.prog 32 #[.string s] w fun e W' => e = .returned (.map (some w.heap.size)) ∧ W'.ownsMap Tryz.prog 9 (plainElem (H := Value) Tryz.prog 3) w.heap.size (s.size / 16) (plD (blks s hs (s.size / 16))) ∧ Below w.heap.size w W' := by
  obtain ⟨m, hm⟩ : ∃ m, s.size / 16 = m := ⟨_, rfl⟩
  have hmm := run_makeMap_hint
  have si : (s.size : Int) ≤ 100000000 := by omega
  have m1 : (s.size : Int) / 16 = (m : Int) := by omega
  rw [hm]
  refine (callsIn_wide (n := 3)).1 ?_
  refine callsIn_of_wp_marks Tryz.func32 rfl trivial ?_ rfl
  simp only [Tryz.ntmps32, List.size_toArray, List.length_cons, List.length_nil, Nat.reduceAdd, Nat.reduceSub, Array.replicate_succ, Array.replicate_zero, List.push_toArray, List.append_toArray, List.nil_append, List.cons_append]
  gi_wp2_with (refine ⟨trivial, ?_⟩; gi_at_call 56; refine (blocks_in _ _ _).mono ?_; rintro e w' ⟨rfl, rfl⟩)
  have hm0 := World.ownsMap_made w Tryz.prog 9 (plainElem (H := Value) Tryz.prog 3)
  have bS := (Boxed.new (w.alloc (.map #[] 0)) 59 (.map (some w.heap.size))).alloc (.cells #[.string s] 9)
  have bN := Boxed.new ((w.alloc (.map #[] 0)).alloc (.cells #[.map (some w.heap.size)] 59)) 9 (.string s)
  simp only [World.size_alloc] at bS bN
  have hB0 : Below w.heap.size w (((w.alloc (.map #[] 0)).alloc (.cells #[.map (some w.heap.size)] 59)).alloc (.cells #[.string s] 9)) := (((Below.refl _ w).alloc (Nat.le_refl _) _).alloc (by simp) _).alloc (by simp; omega) _
  refine wpIn_rangeFunc_ownG rfl (by omega) (gf := 81) (lb := #[.pointer (some ⟨w.heap.size + 1 + 1, 0, none⟩)]) rfl trivial (enters_of Tryz.func81 (by kernel_rfl) rfl)
    (blocks_stops 2 (by omega) (w.heap.size + 1 + 1) s hs m hm _ (by simp) bN.cell) KpC.t (KpC.b (by simp)) (Below.refl _ _) (fun _ => rfl)
    (fun pre W => ((W.cell? ⟨w.heap.size + 1, 0, none⟩ = some (.map (some w.heap.size)) ∧ W.cell? ⟨w.heap.size + 1 + 1, 0, none⟩ = some (.string s)) ∧ W.ownsMap Tryz.prog 9 (plainElem (H := Value) Tryz.prog 3) w.heap.size pre.length (plD pre)) ∧ Below w.heap.size w W)
    (fun _ _ _ => False)
    (OwnFrom.and (fun s A B row hs hg hr => ⟨⟨cell_kept hs.1.1 hg (fun r e => (hr r e).2), cell_kept hs.1.2 hg (fun r e => (hr r e).2)⟩, hs.2.kept hg (fun e => by have := (hr _ e.symm).1; simp at this; omega)⟩) (ownFrom_below (Nat.le_refl _) (by simp; omega)))
    (fun _ _ _ _ _ hs _ _ => hs)
    ⟨⟨⟨bS.cell, bN.cell⟩, (hm0.alloc _).alloc _⟩, hB0⟩
    (fun x => { tmps := #[.string s, undef, .map none, .pointer (some ⟨w.heap.size + 1, 0, none⟩), .int .i64 (x.1.1 : Int), .string x.1.2, undef, undef, .string s, .int .i64 (s.size : Int), .int .i64 (m : Int), .map (some w.heap.size), .string s, .func (.func 81) #[] #[.pointer (some ⟨w.heap.size + 1 + 1, 0, none⟩)], .int .i64 (x.1.1 : Int), .string x.1.2, undef, undef, undef, undef, undef, undef, undef, undef, undef, undef, undef, undef], defers := [] }) ?assign ?body ?done ?stop
  case assign =>
    intro l x W K hK
    gi_wp2
    exact hK
  case body =>
    rintro l pre x W ⟨⟨⟨hc, hc2⟩, hown⟩, hB⟩ hlt
    have hsn := plD_snoc pre x
    obtain ⟨⟨pl, bl⟩, hpl, hbl⟩ := x
    have hkey := keyS9 bl hbl
    rw [putB] at hsn
    simp only at hsn hpl hbl hkey ⊢
    have hwf : (Lit.int .i64 (pl : Int)).wf = true := WalkArith.wf_i64 (by omega)
    cases hh : Maps.has (plD pre) (key9 bl) with
    | true =>
      rw [hh, if_pos rfl] at hsn
      have HSN := hideIt hsn
      clear hsn
      gi_wp2_with (gi_at_lookup; refine wpListIn_lookup_own_ok_int _ rfl _ _ 59 rfl 9 3 .i64 (Go.Maps.string_keyed Tryz.underlying9) Tryz.underlying59 Tryz.underlying3 (Tryz.zeroValue3 _) w.heap.size pre.length _ rfl hown _ _ rfl hkey ?_; intro c hat hwc; rw [hh])
      refine ⟨KeepsFrom.refl _ _, rfl, ⟨⟨hc, hc2⟩, ?_⟩, hB⟩
      rw [HSN.out, List.length_append]
      exact hown.mono (by omega)
    | false =>
      rw [hh, if_neg (by simp)] at hsn
      have HSN := hideIt hsn
      clear hsn
      gi_wp2_with (first
        | (gi_at_lookup; refine wpListIn_lookup_own_ok_int _ rfl _ _ 59 rfl 9 3 .i64 (Go.Maps.string_keyed Tryz.underlying9) Tryz.underlying59 Tryz.underlying3 (Tryz.zeroValue3 _) w.heap.size pre.length _ rfl hown _ _ rfl hkey ?_; intro c hat hwc; rw [hh])
        | (gi_at_mapUpdate; refine wpListIn_mapUpdate_own _ rfl _ _ _ 59 rfl 9 3 (Go.Maps.string_keyed Tryz.underlying9) Tryz.underlying59 _ w.heap.size pre.length _ rfl hown (by unfold maxLen; omega) _ _ _ rfl rfl hkey _ [] (plainElem_int Tryz.underlying3 hwf) ?_; intro w1 hown1 hgrow1))
      obtain ⟨es, ck, hh2, _⟩ := hown
      refine ⟨KeepsFrom.of_grownBy hgrow1 (fun j e => by cases e; simp; omega), ?_, ⟨⟨cell_kept hc hgrow1 (fun r e => by cases e; exact ⟨_, hh2, rfl⟩), cell_kept hc2 hgrow1 (fun r e => by cases e; exact ⟨_, hh2, rfl⟩)⟩, ?_⟩, hB.grown hgrow1 hB.size (fun k e => by cases e; exact Nat.le_refl _)⟩
      · exact Eq.trans (cell_kept hc2 hgrow1 (fun r e => by cases e; exact ⟨_, hh2, rfl⟩)) hc2.symm
      · rw [HSN.out, List.length_append]
        exact hown1
  case done =>
    rintro D ys W hD rfl ⟨⟨⟨hc, _⟩, hown⟩, hB⟩ hK
    gi_wp2
    refine ⟨by simp, .inl ⟨_, _, rfl, run_takeDeferred hK, ?_⟩⟩
    rw [blks_len] at hown
    exact ⟨_, results_tmp rfl _ _ _, rfl, hown.kept (grownBy_putObj' _ D _) (fun e => by cases e; simp at hD; omega), hB.trans (belowK_b (w := w) (Nat.le_refl _) W D _ _ (by simp at hD; omega) hK rfl rfl)⟩
  case stop =>
    rintro D c pre W _ _ h _
    exact h.elim
end Go.Proofs.YtdbbgpcjclmelaaGreatDoor.De
