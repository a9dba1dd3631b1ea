/- A commit as the laws cut it, walked: six parents or fewer. -/
import Derived.Test.YtmjffngpaoaflaaGreatDoorLcms
import Derived.Test.YtmjffngpaoaflaaGreatDoorOo
import Derived.Deep.RegionWith
namespace Go.Proofs.YtmjffngpaoaflaaGreatDoor
namespace Ob
open Go.RowKit Go.Shelf
set_option maxHeartbeats 200000000 in
set_option maxRecDepth 100000 in
theorem commit_le (tr au tx : ByteArray) (tm n : Nat) (a : Option Addr) (cc : Nat) (w : World) (h6 : ¬ 6 < n) (h1 : tr.size ≤ maxLen) (h2 : au.size ≤ maxLen) (h3 : tx.size ≤ maxLen) :
    Calls Tryz.prog 13 #[.agg #[.string tr, .slice a n cc, .string au, .int .u64 (tm : Int), .string tx]] w fun e w' => e = .returned (.tuple #[.agg #[.string (fewS tr), .slice a n cc, .string (fewS au), .int .u64 (tm : Int), .string (fewS tx)], .agg #[.string (fewS tr), .slice a n cc, .string (fewS au), .int .u64 (tm : Int), .string (fewS tx)]]) ∧ Below w.heap.size w w' := by
  have HF1 := hideIt (fun w => flipC (few_any tr w h1))
  have HF2 := hideIt (fun w => flipC (few_any au w h2))
  have HF3 := hideIt (fun w => flipC (few_any tx w h3))
  obtain ⟨tr', htr⟩ : ∃ x, fewS tr = x := ⟨_, rfl⟩
  obtain ⟨au', hau⟩ : ∃ x, fewS au = x := ⟨_, rfl⟩
  obtain ⟨tx', htx⟩ : ∃ x, fewS tx = x := ⟨_, rfl⟩
  rw [htr] at HF1 ⊢
  rw [hau] at HF2 ⊢
  rw [htx] at HF3 ⊢
  clear htr hau htx h1 h2 h3
  have HE : Hid (∀ v : Value, ∃ W, ((w.alloc (.cells #[.string tr, v, .string au, .int .u64 (tm : Int), .string tx] 42)).alloc (.cells #[.string ⟨#[]⟩, .slice none 0 0, .string ⟨#[]⟩, .int .u64 0, .string ⟨#[]⟩] 42)).alloc (.cells #[.string ⟨#[]⟩, .slice none 0 0, .string ⟨#[]⟩, .int .u64 0, .string ⟨#[]⟩] 43) = W ∧ CBox W w.heap.size 42 ⟨tr, v, [], au, tm, tx⟩ ∧ CBox W (w.heap.size + 1) 42 cmZ ∧ CBox W (w.heap.size + 2) 43 cmZ ∧ Below w.heap.size w W) := hideIt (fun v => ⟨_, rfl, by
    refine CBox.below (CBox.below ⟨Cb.alloc_at rfl⟩ (new_below _ _)) (new_below _ _), by
    refine CBox.below ⟨Cb.alloc_at (by simp)⟩ (new_below _ _), ⟨Cb.alloc_at (by simp)⟩, below2 (below2 (new_below _ _) (new_below _ _)) (new_below _ _)⟩)
  have k1 : ¬ (6 : Int) < (n : Int) := by omega
  go_enter Tryz.func13, Tryz.ntmps13
  go_wp2_with fail
  obtain ⟨W, hW, hb, hz1, hz2, hbl⟩ := HE.out (.slice a n cc)
  rw [hW]
  have HW3 := hideIt (lcm_world (tr' := tr') (au' := au') (tx' := tx') hb hz1 hz2 hbl)
  have c0 : W.drew.cell? ⟨w.heap.size, 0, none⟩ = some (.string tr) := hb.c0
  have c2 : W.drew.cell? ⟨w.heap.size, 2, none⟩ = some (.string au) := hb.c2
  have c4 : W.drew.cell? ⟨w.heap.size, 4, none⟩ = some (.string tx) := hb.c4
  have f0 : W.drew.frozen? ⟨w.heap.size, 0, none⟩ = false := hb.f0
  have f2 : W.drew.frozen? ⟨w.heap.size, 2, none⟩ = false := hb.f2
  have f4 : W.drew.frozen? ⟨w.heap.size, 4, none⟩ = false := hb.f4
  have c0w : W.cell? ⟨w.heap.size, 0, none⟩ = some (.string tr) := hb.c0
  have c2w : W.cell? ⟨w.heap.size, 2, none⟩ = some (.string au) := hb.c2
  have c4w : W.cell? ⟨w.heap.size, 4, none⟩ = some (.string tx) := hb.c4
  have f0w := hb.f0
  have f2w := hb.f2
  have f4w := hb.f4
  clear hW hb hz1 hz2 hbl HE k1 h6
  rename_i Q0 K0 aK
  have HR : Exit.then K0 Q0 Exit.normal ⟨#[.agg #[.string tr, .slice a n cc, .string au, .int .u64 (tm : Int), .string tx], .pointer (some ⟨w.heap.size, 0, none⟩), .pointer (some ⟨w.heap.size + 1, 0, none⟩), .pointer (some ⟨w.heap.size + 1 + 1, 0, none⟩), .pointer (some ⟨w.heap.size, 1, none⟩), .slice a n cc, .int .i64 (n : Int), .bool false, undef, undef, undef, undef, .pointer (some ⟨w.heap.size, 4, none⟩), .string tx, .string tx', .pointer (some ⟨w.heap.size, 2, none⟩), .string au, .string au', .pointer (some ⟨w.heap.size, 0, none⟩), .string tr, .string tr', .pointer (some ⟨w.heap.size, 4, none⟩), .pointer (some ⟨w.heap.size, 2, none⟩), .pointer (some ⟨w.heap.size, 0, none⟩), undef, undef], []⟩ (((W.setCell ⟨w.heap.size, 4, none⟩ (.string tx')).setCell ⟨w.heap.size, 2, none⟩ (.string au')).setCell ⟨w.heap.size, 0, none⟩ (.string tr')).drew := by
    clear c0 c2 c4 f0 f2 f4 c0w c2w c4w f0w f2w f4w HF1 HF2 HF3
    obtain ⟨W3, hW3, hb, hz1, hz2, hbl⟩ := HW3.out
    rw [hW3]
    have HB := hideIt hb
    have HZ1 := hideIt hz1
    have HZ2 := hideIt hz2
    have HBL := hideIt hbl
    have HS : Hid (W3.drew.cell? ⟨w.heap.size, 0, none⟩ = some (Value.string tr') ∧ W3.drew.cell? ⟨w.heap.size, 1, none⟩ = some (.slice a n cc) ∧ W3.drew.cell? ⟨w.heap.size, 2, none⟩ = some (Value.string au') ∧ W3.drew.cell? ⟨w.heap.size, 3, none⟩ = some (.int .u64 (tm : Int)) ∧ W3.drew.cell? ⟨w.heap.size, 4, none⟩ = some (Value.string tx')) := hideIt ⟨hb.c0, hb.c1, hb.c2, hb.c3, hb.c4⟩
    have p0 := hz1.c0
    have p1 := hz1.c1
    have p2 := hz1.c2
    have p3 := hz1.c3
    have p4 := hz1.c4
    have q0 := hz1.f0
    have q1 := hz1.f1
    have q2 := hz1.f2
    have q3 := hz1.f3
    have q4 := hz1.f4
    have r0 := hz2.c0
    have r1 := hz2.c1
    have r2 := hz2.c2
    have r3 := hz2.c3
    have r4 := hz2.c4
    have s0 := hz2.f0
    have s1 := hz2.f1
    have s2 := hz2.f2
    have s3 := hz2.f3
    have s4 := hz2.f4
    have u0 := hb.c0
    have u1 := hb.c1
    have u2 := hb.c2
    have u3 := hb.c3
    have u4 := hb.c4
    dsimp only [cmZ] at p0 p1 p2 p3 p4 r0 r1 r2 r3 r4 u0 u1 u2 u3 u4
    clear hW3 hb hz1 hz2 hbl HW3
    go_wp2
    go_region
    all_goals go_wp2
    all_goals refine bodyPost_ret (v := .tuple #[.agg #[.string tr', .slice a n cc, .string au', .int .u64 (tm : Int), .string tx'], .agg #[.string tr', .slice a n cc, .string au', .int .u64 (tm : Int), .string tx']]) ?_ rfl ⟨rfl, ?_⟩
    all_goals first
      | (rw [results_cc rfl]; go_simp)
      | (exact (put5k (put5k HBL.out (w.heap.size + 1) (by omega) _ _ _ _ _) (w.heap.size + 2) (by omega) _ _ _ _ _).drew)
  go_region_with (first | (go_at_call_of 8 (Value.string tr); refine (HF1.out _).mono ?_; rintro e w5 ⟨rfl, rfl⟩) | (go_at_call_of 8 (Value.string au); refine (HF2.out _).mono ?_; rintro e w5 ⟨rfl, rfl⟩) | (go_at_call_of 8 (Value.string tx); refine (HF3.out _).mono ?_; rintro e w5 ⟨rfl, rfl⟩))
  all_goals exact HR
end Ob
end Go.Proofs.YtmjffngpaoaflaaGreatDoor
