/- Lines of a body, walked: one made, one taken; ids and texts that may be. -/
import Derived.Test.YtmjffngpaoaflaaGreatDoorOw
import Derived.Test.YtmjffngpaoaflaaGreatDoorOl
import Derived.Deep.RegionHeld3
import Derived.BigQuiet
namespace Go.Proofs.YtmjffngpaoaflaaGreatDoor
namespace Ob
open Go.RowKit Go.Shelf
set_option maxHeartbeats 400000 in
theorem line_any (a b : ByteArray) (w : World) (ha : a.size ≤ 1000000) (hb : b.size ≤ 1000000) :
    Calls Tryz.prog 37 #[.string a, .string b] w fun e w' => e = .returned (.string (a ++ ⟨#[32]⟩ ++ b ++ ⟨#[10]⟩)) ∧ w' = w := by
  have t1 : ¬ 9223372036854775807 < a.size + 1 := by omega
  have t2 : ¬ 9223372036854775807 < a.size + 1 + b.size := by omega
  have t3 : ¬ 9223372036854775807 < a.size + 1 + b.size + 1 := by omega
  go_enter Tryz.func37, Tryz.ntmps37
  go_wp2
  go_ret
  exact ⟨rfl, rfl⟩
theorem lineS (wd t : List UInt8) : bs wd ++ ⟨#[32]⟩ ++ bs t ++ ⟨#[10]⟩ = bs (lineL wd t) := by
  rw [show (⟨#[32]⟩ : ByteArray) = bs [32] from rfl, show (⟨#[10]⟩ : ByteArray) = bs [10] from rfl, bs_append, bs_append, bs_append]
  simp [lineL]
theorem line_c (wd t : List UInt8) (w : World) (ha : wd.length ≤ 1000000) (hb : t.length ≤ 1000000) :
    Calls Tryz.prog 37 #[.string (bs wd), .string (bs t)] w fun e w' => e = .returned (.string (bs (lineL wd t))) ∧ w' = w := by
  have := line_any (bs wd) (bs t) w (by rw [bs_size]; exact ha) (by rw [bs_size]; exact hb)
  rw [lineS] at this
  exact this
set_option maxHeartbeats 400000 in
theorem mayBeID_any (s : ByteArray) (w : World) : Calls Tryz.prog 40 #[.string s] w fun e w' => e = .returned (.bool (idB s)) ∧ w' = w := by
  by_cases h : s.size = 32
  · have h1 : (s.size : Int) = 32 := by omega
    have HI : Hid (idB s = true) := hideIt (decide_eq_true h)
    go_enter Tryz.func40, Tryz.ntmps40
    go_wp2
    go_ret
    exact ⟨by rw [HI.out] <;> rfl, rfl⟩
  · have h1 : ((s.size : Int) == 32) = false := by
      have : ¬ (s.size : Int) = 32 := by omega
      simpa using this
    have HI : Hid (idB s = false) := hideIt (decide_eq_false h)
    go_enter Tryz.func40, Tryz.ntmps40
    go_wp2
    go_ret
    exact ⟨by rw [HI.out] <;> rfl, rfl⟩
set_option maxHeartbeats 400000 in
theorem mayBeText_any (s : ByteArray) (w : World) (hs : s.size ≤ maxLen) : Calls Tryz.prog 43 #[.string s] w fun e w' => e = .returned (.bool (textB s)) ∧ Below w.heap.size w w' := by
  have HW := hideIt (words_any s w hs)
  have HT : Hid (textB s = (decide (s.size ≤ 4096) && decide (Lb.bad s s.size 0 = 0))) := rfl
  obtain ⟨g, hg⟩ : ∃ g, Lb.good s s.size 0 = g := ⟨_, rfl⟩
  obtain ⟨b, hb⟩ : ∃ b, Lb.bad s s.size 0 = b := ⟨_, rfl⟩
  rw [hg, hb] at HW
  rw [hb] at HT
  clear hg hb hs
  by_cases h : 4096 < s.size
  · have h1 : (4096 : Int) < (s.size : Int) := by omega
    rw [decide_eq_false (by omega), Bool.false_and] at HT
    go_enter Tryz.func43, Tryz.ntmps43
    go_wp2
    go_ret
    exact ⟨by rw [HT.out] <;> rfl, Below.refl _ _⟩
  · have h1 : ¬ (4096 : Int) < (s.size : Int) := by omega
    rw [decide_eq_true (by omega), Bool.true_and] at HT
    by_cases hz : b = 0
    · have hz1 : ((b : Int) == 0) = true := by simp [hz]
      rw [decide_eq_true hz] at HT
      go_enter Tryz.func43, Tryz.ntmps43
      go_wp2_with (first | (go_at_call 73; refine HW.out.mono ?_; rintro e w1 ⟨rfl, hb1⟩))
      go_ret
      exact ⟨by rw [HT.out]; simp, hb1⟩
    · have hz1 : ((b : Int) == 0) = false := by simpa using hz
      rw [decide_eq_false hz] at HT
      go_enter Tryz.func43, Tryz.ntmps43
      go_wp2_with (first | (go_at_call 73; refine HW.out.mono ?_; rintro e w1 ⟨rfl, hb1⟩))
      go_ret
      exact ⟨by rw [HT.out]; simp, hb1⟩
/-- A reader as it stands in memory. -/
structure Rdr (w : World) (N : Nat) (s : ByteArray) (b : Bool) : Prop where
  blk : w.heap[N]? = some (.cells #[.string s, .bool b] 79 (0, 0))
theorem Rdr.lt {w : World} {N : Nat} {s : ByteArray} {b : Bool} (h : Rdr w N s b) : N < w.heap.size := by
  rcases Nat.lt_or_ge N w.heap.size with h' | h'
  · exact h'
  · have := h.blk; simp [Array.getElem?_eq_none h'] at this
theorem cellAt {w : World} {b : Nat} {cs : Array Value} {t : TypeId} {i : Nat} {v : Value} (h : w.heap[b]? = some (.cells cs t (0, 0))) (hv : cs[i]? = some v) : w.cell? ⟨b, i, none⟩ = some v := by
  simp [World.cell?, h, hv]
theorem Rdr.c0 {w : World} {N : Nat} {s : ByteArray} {b : Bool} (h : Rdr w N s b) : w.cell? ⟨N, 0, none⟩ = some (.string s) := cellAt h.blk rfl
theorem Rdr.c1 {w : World} {N : Nat} {s : ByteArray} {b : Bool} (h : Rdr w N s b) : w.cell? ⟨N, 1, none⟩ = some (.bool b) := cellAt h.blk rfl
theorem Rdr.f0 {w : World} {N : Nat} {s : ByteArray} {b : Bool} (h : Rdr w N s b) : w.frozen? ⟨N, 0, none⟩ = false := Lib.frozen_of_heap h.blk 0
theorem Rdr.f1 {w : World} {N : Nat} {s : ByteArray} {b : Bool} (h : Rdr w N s b) : w.frozen? ⟨N, 1, none⟩ = false := Lib.frozen_of_heap h.blk 1
theorem Rdr.below {w w' : World} {N : Nat} {s : ByteArray} {b : Bool} (h : Rdr w N s b) (hb : Below w.heap.size w w') : Rdr w' N s b := ⟨(hb.block N h.lt).trans h.blk⟩
theorem cutV_fsl (L : List UInt8) : cutV 10 L = .tuple #[.string (bs (fsl L).1), .string (bs (fsl L).2.1), .bool (fsl L).2.2] := by
  unfold cutV fsl
  cases cutc 10 L with
  | none => rfl
  | some p => rfl
theorem pre_bs (a p : List UInt8) : pre (bs a) (bs p) = p.isPrefixOf a := by
  unfold pre
  rw [bs_size, bs_size, bs_extract, ByteArray.toList_eq, ByteArray.toList_eq, bs_list, bs_list]
  simp only [List.drop_zero, Nat.sub_zero]
  cases h : p.isPrefixOf a with
  | true =>
    obtain ⟨t, rfl⟩ := List.isPrefixOf_iff_prefix.1 h
    simp
  | false =>
    by_cases hl : p.length ≤ a.length
    · have : a.take p.length ≠ p := fun e => by
        have h2 : p <+: a := by rw [← e]; exact List.take_prefix _ _
        rw [List.isPrefixOf_iff_prefix.2 h2] at h
        cases h
      have h3 : (a.take p.length == p) = false := by simpa using this
      rw [h3]; simp
    · rw [decide_eq_false hl]; simp
theorem cutp_c (a p : List UInt8) (w : World) :
    Calls Tryz.prog 76 #[.string (bs a), .string (bs p)] w fun e w' => e = .returned (.tuple #[.string (bs (if p.isPrefixOf a = true then a.drop p.length else a)), .bool (p.isPrefixOf a)]) ∧ w' = w := by
  have h := cutPrefix_any (bs a) (bs p) w
  rw [pre_bs, bs_size, bs_size, bs_extract] at h
  have e : (if p.isPrefixOf a = true then bs ((a.drop p.length).take (a.length - p.length)) else bs a) = bs (if p.isPrefixOf a = true then a.drop p.length else a) := by
    split
    · rw [List.take_of_length_le (by simp)]
    · rfl
  rw [e] at h
  exact h
theorem grown_of {w w1 : World} (h : Below w.heap.size w w1) (r : Option Nat) : w.grownBy w1 r := ⟨h.os, h.tape, h.output, h.size, fun k hk _ => h.block k hk⟩
theorem Rdr.cast {w : World} {N : Nat} {s : ByteArray} {b c : Bool} (h : Rdr w N s b) (e : b = c) : Rdr w N s c := e ▸ h
theorem Rdr.set0 {w : World} {N : Nat} {s : ByteArray} {b : Bool} (h : Rdr w N s b) (z : ByteArray) : Rdr (w.setCell ⟨N, 0, none⟩ (.string z)) N z b := ⟨by
  simp [World.setCell, h.blk, Array.getElem?_modify]⟩
theorem Rdr.set1 {w : World} {N : Nat} {s : ByteArray} {b : Bool} (h : Rdr w N s b) (c : Bool) : Rdr (w.setCell ⟨N, 1, none⟩ (.bool c)) N s c := ⟨by
  simp [World.setCell, h.blk, Array.getElem?_modify]⟩
theorem grown_set (w : World) (b i : Nat) (v : Value) : w.grownBy (w.setCell ⟨b, i, none⟩ v) (some b) :=
  ⟨rfl, rfl, rfl, by simp [World.setCell], fun k _ hk => Below.heap_setCell _ _ _ _ (fun e => hk (by rw [e]))⟩
set_option maxHeartbeats 1600000 in
set_option maxRecDepth 100000 in
theorem take_any (N : Nat) (wd L : List UInt8) (bd : Bool) (w : World) (hR : Rdr w N (bs L) bd) (hL : L.length ≤ 1000000) (hw : wd.length ≤ 1000) (hm : MaxAt w) :
    Calls Tryz.prog 46 #[.pointer (some ⟨N, 0, none⟩), .string (bs wd)] w fun e w' => e = .returned (.string (bs (tkT wd L))) ∧ Rdr w' N (bs (tkR L)) (bd || !tkO wd L) ∧ w.grownBy w' (some N) := by
  have HM := hideIt hm
  have HR := hideIt hR
  have c0 := hR.c0
  have HC := hideIt (sCut_any L 10 hL w hm)
  rw [cutV_fsl] at HC
  have HP : Hid (∀ w, Calls Tryz.prog 76 #[.string (bs (fsl L).1), .string (bs (wd ++ [32]))] w fun e w' => e = .returned (.tuple #[.string (bs (tkT wd L)), .bool (hasW wd (fsl L).1)]) ∧ w' = w) := hideIt (fun w => by
    have h := cutp_c (fsl L).1 (wd ++ [32]) w
    have e1 : (if (wd ++ [32]).isPrefixOf (fsl L).1 = true then (fsl L).1.drop (wd ++ [32]).length else (fsl L).1) = tkT wd L := by unfold tkT hasW; simp
    rw [e1] at h
    exact h)
  have HO : Hid (tkO wd L = ((fsl L).2.2 && hasW wd (fsl L).1)) := rfl
  have HQ : Hid (bs wd ++ ⟨#[32]⟩ = bs (wd ++ [32])) := hideIt (by rw [show (⟨#[32]⟩ : ByteArray) = bs [32] from rfl, bs_append])
  have HTR : Hid (tkR L = (fsl L).2.1) := rfl
  have sz : (bs wd).size ≤ 1000 := by rw [bs_size]; exact hw
  obtain ⟨en, hen⟩ : ∃ en, (fsl L).2.2 = en := ⟨_, rfl⟩
  obtain ⟨ha, hha⟩ : ∃ ha, hasW wd (fsl L).1 = ha := ⟨_, rfl⟩
  obtain ⟨F, hF⟩ : ∃ F, bs (fsl L).1 = F := ⟨_, rfl⟩
  obtain ⟨Z, hZ⟩ : ∃ Z, bs (fsl L).2.1 = Z := ⟨_, rfl⟩
  obtain ⟨T, hT⟩ : ∃ T, bs (tkT wd L) = T := ⟨_, rfl⟩
  obtain ⟨B, hB⟩ : ∃ B, bs (wd ++ [32]) = B := ⟨_, rfl⟩
  obtain ⟨D, hD⟩ : ∃ D, bs wd = D := ⟨_, rfl⟩
  rw [hen] at HC HO
  rw [hha] at HP HO
  rw [hF] at HC HP
  rw [hZ] at HC
  rw [hT] at HP
  rw [hB] at HP HQ
  rw [hD] at sz HQ
  rw [hT, hD, HTR.out, hZ, HO.out]
  have t1 : ¬ 9223372036854775807 < D.size + 1 := by omega
  have q := HQ.out
  clear hm hR hen hha hF hZ hT hB hD HO HTR HQ
  go_enter Tryz.func46, Tryz.ntmps46
  go_wp2_with (first | (go_at_call 56; refine HC.out.mono ?_; rintro e w1 ⟨rfl, hb1⟩; have HR1 := hideIt (HR.out.below hb1); have d0 := HR1.out.c0; have c1 := HR1.out.c1; have f0 := HR1.out.f0; have f1 := HR1.out.f1) | (go_at_call 76; refine (HP.out _).mono ?_; rintro e w2 ⟨rfl, rfl⟩))
  all_goals go_ret
  all_goals refine ⟨rfl, Rdr.cast ((HR1.out.set1 _).set0 Z) (by simp_all), ((grown_of hb1 _).trans (grown_set _ _ _ _)).trans (grown_set _ _ _ _)⟩
end Ob
end Go.Proofs.YtmjffngpaoaflaaGreatDoor
