/- readSizes; the builder, written to; walked. -/
import Derived.Test.YtdbbgpcjclmelaaGreatDoorDeDme
import Derived.Test.YtdbbgpcjclmelaaGreatDoorShelf
import Derived.Lib.OthersKept
namespace Go.Proofs.YtdbbgpcjclmelaaGreatDoor.De
open Cb
open Go.RowKit Go.Shelf
namespace Dl
/-- How many bytes the text has, the bytes of the steps, the error: both numbers first. -/
def szs (B d : List UInt8) (most : Int) : Nat × List UInt8 × Nat :=
  if (nm d).2.2 ≠ 0 then (0, [], (nm d).2.2) else if (nm (nm d).2.1).2.2 ≠ 0 then (0, [], (nm (nm d).2.1).2.2) else if (nm d).1 ≠ B.length then (0, [], 6)
  else if most < ((nm (nm d).2.1).1 : Int) then (0, [], 3) else ((nm (nm d).2.1).1, (nm (nm d).2.1).2.1, 0)
/-- What the program's Apply tells. -/
def appP (B d : List UInt8) (most : Int) : Nat × List UInt8 := if (szs B d most).2.2 ≠ 0 then ((szs B d most).2.2, []) else stpP B (szs B d most).1 ((szs B d most).1 + 1) [] (szs B d most).2.1
/-- It is the document's where that makes a text, or where it tells an error of the head. -/
theorem appP_app (B d : List UInt8) (most : Int) (h : (app B d most).1 = 0 ∨ (nm d).1 ≠ B.length ∨ most < ((nm (nm d).2.1).1 : Int)) : appP B d most = app B d most := by
  unfold appP szs
  unfold app at h ⊢
  by_cases c1 : (nm d).2.2 ≠ 0
  · simp only [if_pos c1]
  · simp only [if_neg c1] at h ⊢
    by_cases c0 : (nm (nm d).2.1).2.2 ≠ 0
    · simp only [if_pos c0]
    · simp only [if_neg c0] at h ⊢
      by_cases c2 : (nm d).1 ≠ B.length
      · simp only [if_pos c2]
        simp
      · simp only [if_neg c2] at h ⊢
        by_cases c3 : most < ((nm (nm d).2.1).1 : Int)
        · simp [c3]
        · simp only [if_neg c3] at h ⊢
          rw [if_neg (by simp)]
          refine stpP_ok _ _ _ _ _ ?_
          rcases h with h | h | h
          · exact h
          · exact absurd h c2
          · exact absurd h c3
end Dl
def szV (r : Nat × List UInt8 × Nat) : Value := .tuple #[.int .i64 (r.1 : Int), .string (bs r.2.1), .int .i64 (r.2.2 : Int)]
set_option maxHeartbeats 1600000 in
set_option maxRecDepth 100000 in
theorem readSizes_any (b s : ByteArray) (most : Int) (w : World) (hb : b.size ≤ 1000000) (hs : s.size ≤ 1000000) (hm : most ≤ 1000000) :
    Calls Tryz.prog 96 #[.string b, .string s, .int .i64 most] w fun e w' => e = .returned (szV (Dl.szs b.data.toList s.data.toList most)) ∧ ∃ q, w' = w.drewN q := by
  obtain ⟨B, hB⟩ : ∃ L, b.data.toList = L := ⟨_, rfl⟩
  obtain ⟨L, hL⟩ : ∃ L, s.data.toList = L := ⟨_, rfl⟩
  have HU := hideIt (readNumber_any s w (by omega))
  have hz := Dl.nm_small L
  have hlt := Dl.nm_lt L
  have hln := Dl.nm_len L
  rw [hL] at HU
  have hBs : B.length = b.size := by rw [← hB, str_len]
  have hLs : L.length = s.size := by rw [← hL, str_len]
  obtain ⟨p, L2, z, hnm⟩ : ∃ n k z, Dl.nm L = (n, k, z) := ⟨_, _, _, rfl⟩
  rw [hB, hL]
  unfold Dl.szs
  rw [hnm] at HU hz hlt hln ⊢
  simp only [numV] at HU
  simp only at hz hlt hln ⊢
  have bw : IntKind.u64.wrap (b.size : Int) = (b.size : Int) := by simp [IntKind.wrap, IntKind.bits, IntKind.signed]; omega
  obtain ⟨X, hX⟩ : ∃ X, bs L2 = X := ⟨_, rfl⟩
  have hXd : X.data.toList = L2 := by rw [← hX, bs_list]
  have hXs : X.size ≤ 1000000 := by rw [← str_len, hXd]; omega
  rw [hX] at HU
  by_cases h0 : z = 0
  · subst h0
    rw [if_neg (by simp)]
    rw [hBs]
    have HU2 := hideIt (fun w => readNumber_any X w (by omega))
    have hz2 := Dl.nm_small L2
    have hlt2 := Dl.nm_lt L2
    rw [hXd] at HU2
    obtain ⟨p2, L3, z2, hnm2⟩ : ∃ n k z, Dl.nm L2 = (n, k, z) := ⟨_, _, _, rfl⟩
    rw [hnm2] at HU2 hz2 hlt2 ⊢
    simp only [numV] at HU2
    simp only at hz2 hlt2 ⊢
    obtain ⟨X2, hX2⟩ : ∃ X, bs L3 = X := ⟨_, rfl⟩
    rw [hX2] at HU2
    by_cases h02 : z2 = 0
    · subst h02
      rw [if_neg (by simp)]
      by_cases h1 : p = b.size
      · rw [if_neg (by simp [h1])]
        have c1 : (p : Int) = (b.size : Int) := by omega
        by_cases h3 : most < (p2 : Int)
        · rw [if_pos h3]
          by_cases h4 : most < 0
          · have m1 : decide (most < 0) = true := decide_eq_true h4
            clear hB hL hLs hBs hnm hX hXd hnm2 hX2 h1
            go_enter Tryz.func96, Tryz.ntmps96
            go_wp2_with (first | (go_at_call_of 122 (Value.string s); refine HU.out.mono ?_; rintro e w1 ⟨rfl, q1, hw1⟩; obtain rfl := hw1.symm) | (go_at_call 122; refine (HU2.out _).mono ?_; rintro e w2 ⟨rfl, q2, hw2⟩; obtain rfl := hw2.symm))
            (try simp only [Exit.inBlock, Exit.then])
            refine bodyPost_ret (v := szV (0, [], 3)) ?_ rfl ⟨rfl, _, rfl⟩
            rw [results_tmp3 rfl]
            rfl
          · obtain ⟨m, rfl⟩ : ∃ m : Nat, most = (m : Int) := ⟨most.toNat, by omega⟩
            have mw : IntKind.u64.wrap (m : Int) = (m : Int) := by simp [IntKind.wrap, IntKind.bits, IntKind.signed]; omega
            have m1 : ¬ (m : Int) < 0 := h4
            clear hB hL hLs hBs hnm hX hXd hnm2 hX2 h1
            go_enter Tryz.func96, Tryz.ntmps96
            go_wp2_with (first | (go_at_call_of 122 (Value.string s); refine HU.out.mono ?_; rintro e w1 ⟨rfl, q1, hw1⟩; obtain rfl := hw1.symm) | (go_at_call 122; refine (HU2.out _).mono ?_; rintro e w2 ⟨rfl, q2, hw2⟩; obtain rfl := hw2.symm))
            (try simp only [Exit.inBlock, Exit.then])
            refine bodyPost_ret (v := szV (0, [], 3)) ?_ rfl ⟨rfl, _, rfl⟩
            rw [results_tmp3 rfl]
            rfl
        · rw [if_neg h3]
          obtain ⟨m, rfl⟩ : ∃ m : Nat, most = (m : Int) := ⟨most.toNat, by omega⟩
          have mw : IntKind.u64.wrap (m : Int) = (m : Int) := by simp [IntKind.wrap, IntKind.bits, IntKind.signed]; omega
          have m1 : ¬ (m : Int) < 0 := by omega
          have p8 : (p2 : Int) ≤ 1000000 := by omega
          rw [szV]
          simp only
          rw [hX2]
          clear hB hL hLs hBs hnm hX hXd hnm2 hX2 h1
          go_enter Tryz.func96, Tryz.ntmps96
          go_wp2_with (first | (go_at_call_of 122 (Value.string s); refine HU.out.mono ?_; rintro e w1 ⟨rfl, q1, hw1⟩; obtain rfl := hw1.symm) | (go_at_call 122; refine (HU2.out _).mono ?_; rintro e w2 ⟨rfl, q2, hw2⟩; obtain rfl := hw2.symm))
          (try simp only [Exit.inBlock, Exit.then])
          refine bodyPost_ret (v := .tuple #[.int .i64 (p2 : Int), .string X2, .int .i64 0]) ?_ rfl ⟨rfl, _, rfl⟩
          rw [results_tmp3 rfl]
          go_simp
      · rw [if_pos h1]
        have c1 : ¬ (p : Int) = (b.size : Int) := by omega
        have c2 : ((p : Int) == (b.size : Int)) = false := beq_eq_false_iff_ne.2 c1
        clear hB hL hLs hBs hnm hX hXd hnm2 hX2
        go_enter Tryz.func96, Tryz.ntmps96
        go_wp2_with (first | (go_at_call_of 122 (Value.string s); refine HU.out.mono ?_; rintro e w1 ⟨rfl, q1, hw1⟩; obtain rfl := hw1.symm) | (go_at_call 122; refine (HU2.out _).mono ?_; rintro e w2 ⟨rfl, q2, hw2⟩; obtain rfl := hw2.symm))
        (try simp only [Exit.inBlock, Exit.then])
        refine bodyPost_ret (v := szV (0, [], 6)) ?_ rfl ⟨rfl, _, rfl⟩
        rw [results_tmp3 rfl]
        rfl
    · rw [if_pos h02]
      have z1 : ¬ (z2 : Int) = 0 := by omega
      have z2' : ((z2 : Int) == 0) = false := beq_eq_false_iff_ne.2 z1
      clear hB hL hLs hBs hnm hX hXd hnm2 hX2
      go_enter Tryz.func96, Tryz.ntmps96
      go_wp2_with (first | (go_at_call_of 122 (Value.string s); refine HU.out.mono ?_; rintro e w1 ⟨rfl, q1, hw1⟩; obtain rfl := hw1.symm) | (go_at_call 122; refine (HU2.out _).mono ?_; rintro e w2 ⟨rfl, q2, hw2⟩; obtain rfl := hw2.symm))
      (try simp only [Exit.inBlock, Exit.then])
      refine bodyPost_ret (v := szV (0, [], z2)) ?_ rfl ⟨rfl, _, rfl⟩
      rw [results_tmp3 rfl]
      rfl
  · rw [if_pos h0]
    have z1 : ¬ (z : Int) = 0 := by omega
    have z2 : ((z : Int) == 0) = false := beq_eq_false_iff_ne.2 z1
    clear hB hL hLs hBs hnm hX hXd
    go_enter Tryz.func96, Tryz.ntmps96
    go_wp2_with (go_at_call_of 122 (Value.string s); refine HU.out.mono ?_; rintro e w1 ⟨rfl, q1, hw1⟩; obtain rfl := hw1.symm)
    (try simp only [Exit.inBlock, Exit.then])
    refine bodyPost_ret (v := szV (0, [], z)) ?_ rfl ⟨rfl, _, rfl⟩
    rw [results_tmp3 rfl]
    rfl
/-! The builder. -/
theorem sizeB9 : (Tryz.prog.info? 139).map (·.size) = some 2 := by kernel_rfl
abbrev BldA (B b : Nat) (L : List UInt8) (w : World) : Prop := Lib.BuilderAt 139 5 B b (.pointer (some ⟨b, 0, none⟩)) (Lib.byteCells L) w
set_option maxHeartbeats 1000000 in
set_option maxRecDepth 100000 in
theorem copy9_any (b : Nat) (w : World) (h0 : w.cell? ⟨b, 0, none⟩ = some (.pointer (some ⟨b, 0, none⟩))) :
    Calls Tryz.prog 125 #[.pointer (some ⟨b, 0, none⟩)] w fun e w' => e = .returned (.tuple #[]) ∧ w' = w := by
  obtain ⟨j, hj, _⟩ := Option.map_eq_some_iff.1 sizeB9
  go_enter Tryz.func125, Tryz.ntmps125
  go_wp2
  rw [Lib.run_neq_ptr_same w _ Tryz.underlying137 hj]
  go_wp2
  go_end0
  exact ⟨rfl, rfl⟩
theorem own_kind9 {w : World} {B n : Nat} {v : Value} {xs : List Value} (h : w.ownsRow B 5 1 v n xs) : ∀ g, v.ownBlock = some g → ∃ c fz, w.heap[g]? = some (.cells c 5 fz) := by
  intro g hg
  rcases h.2 with ⟨rfl, _⟩ | ⟨g', cap, cur, rfl, _, hgg, _⟩
  · simp [Value.ownBlock] at hg
  · simp [Value.ownBlock] at hg
    subst hg
    exact ⟨_, _, hgg⟩
set_option maxHeartbeats 2000000 in
set_option maxRecDepth 100000 in
theorem write9_any (B b : Nat) (L : List UInt8) (s : ByteArray) (w : World) (h : BldA B b L w) (hlen : L.length + s.size ≤ 140737488355328) (hBw : B ≤ w.heap.size) :
    Calls Tryz.prog 99 #[.pointer (some ⟨b, 0, none⟩), .string s] w fun e w' => e = .returned (.tuple #[.int .i64 s.size, .nilIface]) ∧ (BldA B b (L ++ s.data.toList) w' ∧ Below B w w' ∧ Lib.OthersKept 5 (some b) w w') := by
  obtain ⟨i0, hi, hz0, hz1, hz2⟩ := info_parts infoB
  obtain ⟨hB, v, hbk, hown, hne⟩ := h
  have c0 : w.cell? ⟨b, 0, none⟩ = some (.pointer (some ⟨b, 0, none⟩)) := by rw [Lib.cell_of_heap hbk]; rfl
  have c1 : w.cell? ⟨b, 1, none⟩ = some v := by rw [Lib.cell_of_heap hbk]; rfl
  have HC := hideIt (copy9_any b w c0)
  have hcl : (Lib.byteCells L).length = L.length := Lib.byteCells_length L
  go_enter Tryz.func99, Tryz.ntmps99
  go_wp2_with (go_at_call 125; refine HC.out.mono ?_)
  rintro e w1 ⟨rfl, hw1⟩
  obtain rfl := hw1.symm
  clear hw1
  go_wp2_with (at_builtin; refine Lib.wpList_append_own_string _ rfl _ _ 54 9 rfl B 5 i0 Tryz.underlying54 Tryz.underlying9 hi hz0 hz1 hz2 _ _ _ rfl hown s rfl (by unfold maxLen; omega) (by omega) (by omega) ?_)
  intro v' w2 hown' hgrow _
  have hlt : b < w.heap.size := (Array.getElem?_eq_some_iff.1 hbk).1
  have hb2 : w2.heap[b]? = some (.cells #[.pointer (some ⟨b, 0, none⟩), v] 139 (0, 0)) := by
    rw [hgrow.block b hlt (fun e => hne e.symm)]
    exact hbk
  have d0 : w2.cell? ⟨b, 0, none⟩ = some (.pointer (some ⟨b, 0, none⟩)) := by rw [Lib.cell_of_heap hb2]; rfl
  have d1 : w2.cell? ⟨b, 1, none⟩ = some v := by rw [Lib.cell_of_heap hb2]; rfl
  have f1 : w2.frozen? ⟨b, 1, none⟩ = false := Lib.frozen_of_heap hb2 1
  obtain ⟨ao, n', cap, rfl⟩ : ∃ ao n' cap, v' = .slice ao n' cap := by
    rcases hown'.2 with ⟨hv, _⟩ | ⟨g, cap, cur, hv, _⟩
    · exact ⟨_, _, _, hv⟩
    · exact ⟨_, _, _, hv⟩
  go_wp2
  go_ret2
  refine ⟨rfl, ?_, ?_, ?_⟩
  · have : Lib.byteCells (L ++ s.data.toList) = Lib.byteCells L ++ Lib.strCells s := by rw [Lib.byteCells_append, Lib.strCells_eq]
    unfold BldA
    rw [this]
    exact Lib.BuilderAt.put (T := 139) (e := 5) hB hb2 (bs' := Lib.byteCells L ++ Lib.strCells s) (by simpa [Lib.strCells_length, Lib.byteCells_length] using hown') (by decide)
  · exact ((Below.refl B w).grown hgrow hBw (fun k hk => (hown.lt k hk).1)).setCell (p := ⟨b, 1, none⟩) hB _
  · exact ((Lib.OthersKept.refl 5 (some b) w).grown hgrow (own_kind9 hown)).setCell ⟨b, 1, none⟩ rfl _
end Go.Proofs.YtdbbgpcjclmelaaGreatDoor.De
