/- Pressed bytes, whatever they are, spread: walked. -/
import Derived.Test.YtbmhhlkjgnijgaaGreatDoorLdSpo
namespace Go.Proofs.YtbmhhlkjgnijgaaGreatDoor.Ld
open Cb
open Go.RowKit
namespace Lz
theorem alo_len {left : Nat} {T L : List UInt8} (h : (alo left T L).1 = 0) : T.length ≤ (alo left T L).2.1.length ∧ (alo left T L).2.1.length ≤ T.length + left ∧ (alo left T L).2.2.length ≤ L.length := by
  unfold alo at h ⊢
  have hl := nm_len (left : Int) L
  obtain ⟨n, R1, z, hx⟩ : ∃ n R1 z, nm (left : Int) L = (n, R1, z) := ⟨_, _, _, rfl⟩
  rw [hx] at h hl ⊢
  simp only at h hl ⊢
  by_cases hz : z = 0
  · subst hz
    have hn := (nm_ok hx).1
    rw [if_neg (by simp)] at h ⊢
    by_cases hr : R1.length < n
    · rw [if_pos hr] at h; simp at h
    · rw [if_neg hr]
      simp only [List.length_append, List.length_take, List.length_drop]
      omega
  · rw [if_pos hz] at h
    exact absurd h hz
theorem aga_len {left : Nat} {T L : List UInt8} (h : (aga left T L).1 = 0) : T.length + 4 ≤ (aga left T L).2.1.length ∧ (aga left T L).2.1.length ≤ T.length + left ∧ (aga left T L).2.2.length ≤ L.length := by
  unfold aga at h ⊢
  have hl : (nq L).2.1.length ≤ L.length := by unfold nq; simp
  obtain ⟨b, R1, z, hx⟩ : ∃ n R1 z, nq L = (n, R1, z) := ⟨_, _, _, rfl⟩
  rw [hx] at h hl ⊢
  simp only at h hl ⊢
  have hl2 : (nq R1).2.1.length ≤ R1.length := by unfold nq; simp
  obtain ⟨q, R2, z2, hy⟩ : ∃ n R2 z, nq R1 = (n, R2, z) := ⟨_, _, _, rfl⟩
  rw [hy] at h hl2 ⊢
  simp only at h hl2 ⊢
  by_cases hz : z = 0
  · subst hz
    rw [if_neg (by simp)] at h ⊢
    by_cases hz2 : z2 = 0
    · subst hz2
      rw [if_neg (by simp)] at h ⊢
      by_cases hb : b = 0 ∨ 32768 < b ∨ T.length < b
      · rw [if_pos hb] at h; simp at h
      · rw [if_neg hb] at h ⊢
        by_cases hq : left < q + 4
        · rw [if_pos hq] at h; simp at h
        · rw [if_neg hq]
          simp only [rep_len]
          omega
    · rw [if_pos hz2] at h
      exact absurd h hz2
  · rw [if_pos hz] at h
    exact absurd h hz
end Lz
theorem bs_nil_iff (L : List UInt8) : ((bs L).toList == []) = decide (L = []) := by
  rw [ByteArray.toList_eq, bs_list]
  cases L <;> simp
/-- What stands in memory while bytes are spread. -/
theorem sp_end {N : Nat} {T L : List UInt8} {v : Value} {w0 w : World} (h : SpMem N N T v (bs L) w0 w) : ∃ va vc, w.cell? ⟨N, 0, none⟩ = some (.slice va T.length vc) ∧ w.cell? ⟨N, 1, none⟩ = some (.string (bs L)) ∧ (convert 90 9 (.slice va T.length vc)).run Tryz.prog w = .ok (.string (bs T)) w ∧ Below N w0 w := by
  obtain ⟨xa, xc, hx⟩ := slice_of h.own
  refine ⟨xa, xc, by rw [spc0 h.blk, hx], spc1 h.blk, ?_, h.below⟩
  rw [← hx]
  exact run_own h.own
set_option maxHeartbeats 3200000 in
set_option maxRecDepth 100000 in
theorem spread_gen (p : List UInt8) (most : Int) (w : World) (hp : p.length ≤ 100000000) :
    Calls Tryz.prog 36 #[.string (bs p), .int .i64 most] w fun e w' => e = .returned (.tuple #[.string (bs (Lz.spP p most).2), .int .i64 ((Lz.spP p most).1 : Int)]) ∧ Below w.heap.size w w' := by
  obtain ⟨N, hN⟩ : ∃ N, w.heap.size = N := ⟨_, rfl⟩
  have hb0 : (w.alloc (.cells #[.slice none 0 0, .string (bs p)] 107)).heap[N]? = some (.cells #[.slice none 0 0, .string (bs p)] 107 (0, 0)) := alloc_at hN
  have HN := hideIt (numberTo_gen N 1048576 p (.slice none 0 0) _ hb0 (by omega) hp)
  rw [show ((1048576 : Nat) : Int) = 1048576 from rfl] at HN
  have hln := Lz.nm_len 1048576 p
  obtain ⟨n, R, z, hx⟩ : ∃ n R z, Lz.nm 1048576 p = (n, R, z) := ⟨_, _, _, rfl⟩
  have HSP : Hid (Lz.spP p most = if z ≠ 0 then (z, []) else if most < (n : Int) then (3, []) else Lz.spF Lz.aga n (n + 1) [] R) := hideIt (by unfold Lz.spP Lz.spA; rw [hx])
  rw [hx] at HN hln
  simp only at hln
  have HBA : Hid (Below N w (w.alloc (.cells #[.slice none 0 0, .string (bs p)] 107))) := hideIt ((Below.refl N w).alloc (by omega) _)
  have be : bs [] = (⟨#[]⟩ : ByteArray) := rfl
  rw [hN]
  by_cases hz : z = 0
  · subst hz
    rw [if_neg (by simp)] at HSP
    have hn := (Lz.nm_ok hx).1
    have e1 : nmW N (w.alloc (.cells #[.slice none 0 0, .string (bs p)] 107)) p = (w.alloc (.cells #[.slice none 0 0, .string (bs p)] 107)).setCell ⟨N, 1, none⟩ (.string (bs R)) := by unfold nmW; rw [(Lz.nm_nq hx).1]
    rw [e1] at HN
    obtain ⟨W1, hW1⟩ : ∃ W, (w.alloc (.cells #[.slice none 0 0, .string (bs p)] 107)).setCell ⟨N, 1, none⟩ (.string (bs R)) = W := ⟨_, rfl⟩
    rw [hW1] at HN
    have hB1 : W1.heap[N]? = some (.cells #[.slice none 0 0, .string (bs R)] 107 (0, 0)) := by rw [← hW1, heap_setCell_same _ N 1 _ _ _ hb0]; rfl
    have hL1 : Below N w W1 := by rw [← hW1]; exact ((Below.refl N w).alloc (by omega) _).setCell (p := ⟨N, 1, none⟩) (Nat.le_refl _) _
    have HL1 := hideIt hL1
    have nI : (n : Int) ≤ 1048576 := hn
    obtain ⟨S, hS⟩ : ∃ S, bs p = S := ⟨_, rfl⟩
    rw [hS] at HN HBA ⊢
    by_cases hm : most < (n : Int)
    · rw [if_pos hm] at HSP
      rw [HSP.out, be]
      clear hb0 hx hW1 hB1 hL1 e1 hS
      go_enter Tryz.func36, Tryz.ntmps36
      go_wp2_with (first | (go_at_call 81; refine HN.out.mono ?_; rintro e wx ⟨rfl, hwx⟩; obtain rfl := hwx.symm))
      go_ret2
      exact ⟨rfl, HL1.out⟩
    · rw [if_neg hm] at HSP
      have hS1 : n ≤ 1048576 := by omega
      have hmk := run_make_room n hS1 W1
      obtain ⟨hB2, hM2⟩ := SpMem.room (n := n) hL1 (by have := hL1.size; omega) (Nat.le_refl N) hS1 hB1 rfl
      have c0 := spc0 hB2
      have f0 := spf 0 hB2
      have nI2 : IntKind.i64.wrap (n : Int) = (n : Int) := by rw [IntKind.wrap_i64]; omega
      have HM2 := hideIt hM2
      obtain ⟨A, hA⟩ : ∃ A, Lz.spP p most = A := ⟨_, rfl⟩
      rw [hA] at HSP ⊢
      clear hb0 hx hW1 hB1 hL1 hM2 hB2 e1 hS hA
      go_enter Tryz.func36, Tryz.ntmps36
      go_wp2_with (first | (go_at_call 81; refine HN.out.mono ?_; rintro e wx ⟨rfl, hwx⟩; obtain rfl := hwx.symm))
      clear HN c0 f0 hmk
      go_loopw [9] (fun _ wr => ∃ (f : Nat) (v : Value) (T L : List UInt8), L.length ≤ 100000000 ∧ T.length ≤ n ∧ n - T.length < f ∧ A = Lz.spF Lz.aga n f T L ∧ SpMem N N T v (bs L) w wr) (fun _ wr => n - lenAt wr N)
      case atStart => exact ⟨n + 1, _, [], R, by omega, by simp, by simp, HSP.out, HM2.out⟩
      case round =>
        obtain ⟨f, v, T, L, hL, hTn, hf, hA, hr⟩ := hrel
        clear HM2 HSP
        have hla := lenAt_of hr
        have HLA := hideIt hla
        obtain ⟨f', rfl⟩ : ∃ f', f = f' + 1 := ⟨f - 1, by omega⟩
        rw [Lz.spF] at hA
        obtain ⟨a, ha⟩ : ∃ a, T.length = a := ⟨_, rfl⟩
        rw [ha] at hTn hf hA hla HLA
        obtain ⟨va, vc, d0, d1, hcv, hbl⟩ := sp_end hr
        rw [ha] at d0 hcv
        have a1 : (a : Int) ≤ (n : Int) := by omega
        by_cases hlt : a < n
        · rw [if_pos hlt] at hA
          have hlt1 : (a : Int) < (n : Int) := by omega
          have hlt2 : decide ((a : Int) < (n : Int)) = true := decide_eq_true hlt1
          obtain ⟨d, hd⟩ : ∃ d, n - a = d := ⟨_, rfl⟩
          have dI : (n : Int) - (a : Int) = (d : Int) := by omega
          have d2 : (d : Int) ≤ 1048576 := by omega
          have HA := hideIt (alone_gen N N d T L v w wr hr (by omega) hL (by omega))
          rw [hd] at hA
          have hal := @Lz.alo_len d T L
          obtain ⟨z1, T1, L1, h1⟩ : ∃ z T1 L1, Lz.alo d T L = (z, T1, L1) := ⟨_, _, _, rfl⟩
          rw [h1] at HA hA hal
          simp only at hA hal
          by_cases hz1 : z1 = 0
          · subst hz1
            rw [if_neg (by simp)] at hA
            obtain ⟨hl1, hl2, hl3⟩ := hal rfl
            obtain ⟨i, hi⟩ : ∃ i, T1.length = i := ⟨_, rfl⟩
            rw [hi] at hA hl1 hl2
            rw [ha] at hl1 hl2
            have hin : i ≤ n := by omega
            by_cases hin2 : i = n
            · subst hin2
              rw [if_pos rfl] at hA
              have HA2 : Hid (Calls Tryz.prog 82 #[.pointer (some ⟨N, 0, none⟩), .int .i64 (d : Int)] wr fun e w' => e = .returned (.int .i64 0) ∧ ∃ va vc, w'.cell? ⟨N, 0, none⟩ = some (.slice va i vc) ∧ w'.cell? ⟨N, 1, none⟩ = some (.string (bs L1)) ∧ (convert 90 9 (.slice va i vc)).run Tryz.prog w' = .ok (.string (bs T1)) w' ∧ Below N w w') := hideIt (HA.out.mono (by
                rintro e w' ⟨rfl, -, h3⟩
                obtain ⟨v', hm'⟩ := h3 rfl
                obtain ⟨xa, xc, y0, y1, y2, y3⟩ := sp_end hm'
                rw [hi] at y0 y2
                exact ⟨rfl, xa, xc, y0, y1, y2, y3⟩))
              have HAA := hideIt hA
              by_cases hL0 : L1 = []
              · have HAX : Hid (A = (0, T1)) := hideIt (by rw [HAA.out, Lz.fin, if_pos hL0])
                have q1 : ((bs L1).toList == []) = true := by rw [bs_nil_iff]; exact decide_eq_true hL0
                have q2 : (bs L1).toList.isEmpty = true := by rw [hL0, ByteArray.toList_eq]; rfl
                obtain ⟨r1, hr1⟩ : ∃ r, bs L1 = r := ⟨_, rfl⟩
                rw [hr1] at HA2 q1 q2
                clear hr hA h1 hal ha hd hi hla hr1 hL0 HA HAA hcv d1 hbl
                go_wp2_with (first | (go_at_call 82; refine HA2.out.mono ?_; rintro e w2 ⟨rfl, xa, xc, e0, e1, hcv, hbl⟩))
                go_ret2
                exact ⟨by rw [HAX.out] <;> rfl, hbl⟩
              · have HAX : Hid (A = (5, [])) := hideIt (by rw [HAA.out, Lz.fin, if_neg hL0])
                have q1 : ((bs L1).toList == []) = false := by rw [bs_nil_iff]; exact decide_eq_false hL0
                have q2 : (bs L1).toList.isEmpty = false := by rw [ByteArray.toList_eq, bs_list]; cases L1 with | nil => exact absurd rfl hL0 | cons _ _ => rfl
                obtain ⟨r1, hr1⟩ : ∃ r, bs L1 = r := ⟨_, rfl⟩
                rw [hr1] at HA2 q1 q2
                clear hr hA h1 hal ha hd hi hla hr1 hL0 HA HAA hcv d1 hbl
                go_wp2_with (first | (go_at_call 82; refine HA2.out.mono ?_; rintro e w2 ⟨rfl, xa, xc, e0, e1, hcv, hbl⟩))
                go_ret2
                exact ⟨by rw [HAX.out] <;> rfl, hbl⟩
            · rw [if_neg hin2] at hA
              obtain ⟨l, hl⟩ : ∃ l, n - i = l := ⟨_, rfl⟩
              rw [hl] at hA
              have lI : (n : Int) - (i : Int) = (l : Int) := by omega
              have l2 : (l : Int) ≤ 1048576 := by omega
              have hne1 : ¬ (i : Int) = (n : Int) := by omega
              have hne2 : decide ((i : Int) = (n : Int)) = false := decide_eq_false hne1
              have hne3 : ((i : Int) == (n : Int)) = false := beq_eq_false_iff_ne.2 hne1
              have hag := @Lz.aga_len l T1 L1
              obtain ⟨z2, T2, L2, h2⟩ : ∃ z T2 L2, Lz.aga l T1 L1 = (z, T2, L2) := ⟨_, _, _, rfl⟩
              rw [h2] at hA hag
              simp only at hA hag
              have HA2 : Hid (Calls Tryz.prog 82 #[.pointer (some ⟨N, 0, none⟩), .int .i64 (d : Int)] wr fun e w' => e = .returned (.int .i64 0) ∧ ∃ va vc, w'.cell? ⟨N, 0, none⟩ = some (.slice va i vc) ∧ Calls Tryz.prog 83 #[.pointer (some ⟨N, 0, none⟩), .int .i64 (l : Int)] w' fun e w'' => AloTo N N (z2, T2, L2) w e w'') := hideIt (HA.out.mono (by
                rintro e w' ⟨rfl, -, h3⟩
                obtain ⟨v', hm'⟩ := h3 rfl
                obtain ⟨xa, xc, y0, -, -, -⟩ := sp_end hm'
                rw [hi] at y0
                refine ⟨rfl, xa, xc, y0, ?_⟩
                have := again_gen N N l T1 L1 v' w w' hm' (by rw [hi]; omega) (by omega)
                rw [h2] at this
                exact this))
              by_cases hz2 : z2 = 0
              · subst hz2
                rw [if_neg (by simp)] at hA
                have HAA := hideIt hA
                have HAG := hideIt (hag rfl)
                have HLL : Hid (T1.length = i ∧ L1.length ≤ 100000000) := hideIt ⟨hi, by omega⟩
                clear hr hA h1 hal ha hd hi hla HA hcv d1 hbl h2 hag
                go_wp2_with (first | (go_at_call 82; refine HA2.out.mono ?_; rintro e w2 ⟨rfl, xa, xc, e0, hcall⟩; have HCA := hideIt hcall; clear hcall) | (go_at_call 83; refine HCA.out.mono ?_; rintro e w3 ⟨rfl, hb3, hm3⟩; obtain ⟨v3, hm3⟩ := hm3 rfl; have HM3 := hideIt hm3; clear hm3 hb3))
                go_roundw
                case rel =>
                  obtain ⟨g1, g2, g3⟩ := HAG.out
                  obtain ⟨g4, g5⟩ := HLL.out
                  exact ⟨f', v3, T2, L2, by omega, by omega, by omega, HAA.out, HM3.out⟩
                case measure =>
                  obtain ⟨g1, g2, g3⟩ := HAG.out
                  obtain ⟨g4, g5⟩ := HLL.out
                  rw [HLA.out, lenAt_of HM3.out]
                  omega
              · rw [if_pos hz2] at hA
                have HAX := hideIt hA
                have z1' : ¬ (z2 : Int) = 0 := by omega
                have z2' : ((z2 : Int) != 0) = true := by simpa using z1'
                have z3' : ((z2 : Int) == 0) = false := by simpa using z1'
                clear hr hA h1 hal ha hd hi hla HA hcv d1 hbl h2 hag
                go_wp2_with (first | (go_at_call 82; refine HA2.out.mono ?_; rintro e w2 ⟨rfl, xa, xc, e0, hcall⟩; have HCA := hideIt hcall; clear hcall) | (go_at_call 83; refine HCA.out.mono ?_; rintro e w3 ⟨rfl, hb3, -⟩; have HB3 := hideIt hb3; clear hb3))
                go_ret2
                exact ⟨by rw [HAX.out] <;> rfl, HB3.out⟩
          · rw [if_pos hz1] at hA
            have HAX := hideIt hA
            have z1' : ¬ (z1 : Int) = 0 := by omega
            have z2' : ((z1 : Int) != 0) = true := by simpa using z1'
            have z3' : ((z1 : Int) == 0) = false := by simpa using z1'
            clear hr hA h1 hal ha hd hla hcv d1 hbl
            go_wp2_with (first | (go_at_call 82; refine HA.out.mono ?_; rintro e w2 ⟨rfl, hb2, -⟩; have HB2 := hideIt hb2; clear hb2))
            go_ret2
            exact ⟨by rw [HAX.out] <;> rfl, HB2.out⟩
        · obtain rfl : a = n := by omega
          rw [if_neg (by omega)] at hA
          have HAA := hideIt hA
          have hlt2 : decide ((a : Int) < (a : Int)) = false := decide_eq_false (by omega)
          have HB := hideIt hbl
          by_cases hL0 : L = []
          · have HAX : Hid (A = (0, T)) := hideIt (by rw [HAA.out, Lz.fin, if_pos hL0])
            have q1 : ((bs L).toList == []) = true := by rw [bs_nil_iff]; exact decide_eq_true hL0
            have q2 : (bs L).toList.isEmpty = true := by rw [hL0, ByteArray.toList_eq]; rfl
            obtain ⟨r1, hr1⟩ : ∃ r, bs L = r := ⟨_, rfl⟩
            rw [hr1] at d1 q1 q2
            clear hr hA ha hla hr1 hL0 HAA hbl
            go_wp2
            go_ret2
            exact ⟨by rw [HAX.out] <;> rfl, HB.out⟩
          · have HAX : Hid (A = (5, [])) := hideIt (by rw [HAA.out, Lz.fin, if_neg hL0])
            have q1 : ((bs L).toList == []) = false := by rw [bs_nil_iff]; exact decide_eq_false hL0
            have q2 : (bs L).toList.isEmpty = false := by rw [ByteArray.toList_eq, bs_list]; cases L with | nil => exact absurd rfl hL0 | cons _ _ => rfl
            obtain ⟨r1, hr1⟩ : ∃ r, bs L = r := ⟨_, rfl⟩
            rw [hr1] at d1 q1 q2
            clear hr hA ha hla hr1 hL0 HAA hbl
            go_wp2
            go_ret2
            exact ⟨by rw [HAX.out] <;> rfl, HB.out⟩
  · rw [if_pos hz] at HSP
    rw [HSP.out, be]
    have e1 : nmW N (w.alloc (.cells #[.slice none 0 0, .string (bs p)] 107)) p = (w.alloc (.cells #[.slice none 0 0, .string (bs p)] 107)).setCell ⟨N, 1, none⟩ (.string (bs (Lz.nq p).2.1)) := rfl
    rw [e1] at HN
    obtain ⟨W1, hW1⟩ : ∃ W, (w.alloc (.cells #[.slice none 0 0, .string (bs p)] 107)).setCell ⟨N, 1, none⟩ (.string (bs (Lz.nq p).2.1)) = W := ⟨_, rfl⟩
    rw [hW1] at HN
    have HL1 : Hid (Below N w W1) := hideIt (by rw [← hW1]; exact HBA.out.setCell (p := ⟨N, 1, none⟩) (Nat.le_refl _) _)
    have z1' : ¬ (z : Int) = 0 := by omega
    have z2' : ((z : Int) != 0) = true := by simpa using z1'
    have z3' : ((z : Int) == 0) = false := by simpa using z1'
    clear HBA
    obtain ⟨S, hS⟩ : ∃ S, bs p = S := ⟨_, rfl⟩
    rw [hS] at HN ⊢
    clear hb0 hx e1 hS hW1
    go_enter Tryz.func36, Tryz.ntmps36
    go_wp2_with (first | (go_at_call 81; refine HN.out.mono ?_; rintro e wx ⟨rfl, hwx⟩; obtain rfl := hwx.symm))
    go_ret2
    exact ⟨rfl, HL1.out⟩
end Go.Proofs.YtbmhhlkjgnijgaaGreatDoor.Ld
