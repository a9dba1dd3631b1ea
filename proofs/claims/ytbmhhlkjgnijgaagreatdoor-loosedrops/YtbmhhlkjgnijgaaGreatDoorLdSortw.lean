/- One pass of the sorting, walked. -/
import Derived.Test.YtbmhhlkjgnijgaaGreatDoorLdIcell
namespace Go.Proofs.YtbmhhlkjgnijgaaGreatDoor.Ld
open Cb
open Go.RowKit
structure SMem (N gs gp g0 m : Nat) (pl bf sf : Nat → Nat) (w0 w : World) : Prop where
  below : Below N w0 w
  srt : w.heap[gs]? = some (.cells (rowI m sf) 21 (0, 0))
  plc : w.heap[gp]? = some (.cells (rowI m pl) 21 (0, 0))
  bgn : w.heap[g0]? = some (.cells (rowI 257 bf) 220 (0, 0))
theorem SMem.putB {N gs gp g0 m : Nat} {pl bf sf : Nat → Nat} {w0 w : World} (h : SMem N gs gp g0 m pl bf sf w0 w) (h1 : gs ≠ g0) (h2 : gp ≠ g0) (h3 : N ≤ g0) (i v : Nat) : SMem N gs gp g0 m pl (up bf i v) sf w0 (w.setCell ⟨g0, i, none⟩ (.int .i32 (v : Int))) :=
  ⟨h.below.setCell (p := ⟨g0, i, none⟩) h3 _, by rw [heap_setCell_other _ _ _ _ h1]; exact h.srt, by rw [heap_setCell_other _ _ _ _ h2]; exact h.plc, row_setI v h.bgn⟩
theorem SMem.putS {N gs gp g0 m : Nat} {pl bf sf : Nat → Nat} {w0 w : World} (h : SMem N gs gp g0 m pl bf sf w0 w) (h1 : gs ≠ g0) (h2 : gp ≠ gs) (h3 : N ≤ gs) (i v : Nat) : SMem N gs gp g0 m pl bf (up sf i v) w0 (w.setCell ⟨gs, i, none⟩ (.int .i32 (v : Int))) :=
  ⟨h.below.setCell (p := ⟨gs, i, none⟩) h3 _, row_setI v h.srt, by rw [heap_setCell_other _ _ _ _ h2]; exact h.plc, by rw [heap_setCell_other _ _ _ _ h1.symm]; exact h.bgn⟩
theorem SMem.drew {N gs gp g0 m : Nat} {pl bf sf : Nat → Nat} {w0 w : World} (h : SMem N gs gp g0 m pl bf sf w0 w) : SMem N gs gp g0 m pl bf sf w0 w.drew := ⟨h.below.drew, h.srt, h.plc, h.bgn⟩
theorem SMem.start {N gs gp m : Nat} {pl sf : Nat → Nat} {w : World} (z : Array Value) (hz : z = rowI 257 (fun _ => 0)) (hN : N ≤ w.heap.size) (h1 : w.heap[gs]? = some (.cells (rowI m sf) 21 (0, 0))) (h2 : w.heap[gp]? = some (.cells (rowI m pl) 21 (0, 0))) :
    SMem N gs gp w.heap.size m pl (fun _ => 0) sf w (w.alloc (.cells z 220)) := by
  subst hz
  have g1 : gs < w.heap.size := by have := (Array.getElem?_eq_some_iff.1 h1).1; exact this
  have g2 : gp < w.heap.size := by have := (Array.getElem?_eq_some_iff.1 h2).1; exact this
  exact ⟨(Below.refl _ _).alloc hN _, by rw [Below.heap_alloc _ _ _ (by omega)]; exact h1, by rw [Below.heap_alloc _ _ _ (by omega)]; exact h2, alloc_at rfl⟩
theorem key_at (s : ByteArray) (k x : Nat) (h : x + k < s.size) : ((s[x + k]).toNat : Nat) = Lz.key s.data.toList k x := by
  have hl : x + k < s.data.toList.length := by rw [str_len]; exact h
  rw [Lz.key]
  simp only [List.getD, List.getElem?_eq_getElem hl, Option.getD_some]
  rfl
theorem infoArr : (Tryz.prog.info? 220).bind (·.zero) = some (.agg (List.replicate 257 (Value.int .i32 0)).toArray) := by kernel_rfl
theorem zeroArr (w : World) : Sem.run Tryz.prog (zeroValue 220) w = .ok (.agg (rowI 257 fun _ => 0)) w := by
  have h := infoArr
  rw [← rowI_zeros] at h
  generalize rowI 257 (fun _ => 0) = Z at h ⊢
  cases hi : Tryz.prog.info? 220 with
  | none => rw [hi] at h; cases h
  | some i =>
    rw [hi] at h
    simp only [Option.bind_some] at h
    simp [zeroValue, typeInfo, hi, h]
set_option maxHeartbeats 800000 in
set_option maxRecDepth 100000 in
theorem sort_any (N gs gp m k : Nat) (l : List Nat) (s : ByteArray) (sf : Nat → Nat) (w : World) (hl : l.length = m) (hnd : l.Nodup) (hin : ∀ x ∈ l, x + k < s.size) (hs : s.size ≤ 1048576) (hk : k ≤ 3) (hne : gp ≠ gs) (hN : N ≤ gs) (hm : m ≤ 1048576)
    (h1 : w.heap[gs]? = some (.cells (rowI m sf) 21 (0, 0))) (h2 : w.heap[gp]? = some (.cells (rowI m (fun i => l.getD i 0)) 21 (0, 0))) :
    Calls Tryz.prog 151 #[.slice (some ⟨gs, 0, none⟩) m m, .slice (some ⟨gp, 0, none⟩) m m, .string s, .int .i32 (k : Int)] w fun e w' => e = .returned (.tuple #[]) ∧ Below N w w' ∧
      w'.heap[gs]? = some (.cells (rowI m (fun i => (Lz.pass (Lz.key s.data.toList k) l).getD i 0)) 21 (0, 0)) ∧ w'.heap[gp]? = some (.cells (rowI m (fun i => l.getD i 0)) 21 (0, 0)) := by
  obtain ⟨f, hfd⟩ : ∃ f, Lz.key s.data.toList k = f := ⟨_, rfl⟩
  have hf : ∀ x, f x < 256 := by intro x; rw [← hfd]; exact Lz.key_lt _ _ _
  have g1 : gs < w.heap.size := (Array.getElem?_eq_some_iff.1 h1).1
  have g2 : gp < w.heap.size := (Array.getElem?_eq_some_iff.1 h2).1
  obtain ⟨g0, hg0⟩ : ∃ g, w.heap.size = g := ⟨_, rfl⟩
  have HS := hideIt (fun z hz => SMem.start (N := N) z hz (by omega) h1 h2)
  rw [hfd]
  obtain ⟨pl, hpl⟩ : ∃ pl : Nat → Nat, (fun i => l.getD i 0) = pl := ⟨_, rfl⟩
  rw [hpl] at HS ⊢
  have hat : ∀ i, i < m → ∃ x, l[i]? = some x ∧ pl i = x ∧ x < 1048576 ∧ f x < 256 ∧ x + k < s.size ∧ ∀ h : x + k < s.size, (s[x + k]).toNat = f x := by
    intro i hi
    have hi2 : i < l.length := by omega
    refine ⟨l[i], by simp [hi2], by rw [← hpl]; simp [List.getD, hi2], ?_, hf _, hin _ (List.getElem_mem hi2), ?_⟩
    · have := hin _ (List.getElem_mem hi2); omega
    · intro h; rw [← hfd]; exact key_at s k _ h
  have n1 : gs ≠ g0 := by omega
  have n2 : gp ≠ g0 := by omega
  have n3 : N ≤ g0 := by omega
  have mi : (m : Int) ≤ 1048576 := by omega
  have ki : (k : Int) ≤ 3 := by omega
  have si : (s.size : Int) ≤ 1048576 := by omega
  have HAT := hideIt hat
  have HND := hideIt hnd
  have HL := hideIt hl
  clear h1 h2 hin hfd hpl hat hnd hl
  have hz60 := zeroArr w
  go_enter Tryz.func151, Tryz.ntmps151
  go_wp2
  go_loopw [17] (fun t wr => ∃ i : Nat, i ≤ m ∧ t = .int .i64 i ∧ SMem N gs gp g0 m pl (Lz.cntF f l i) sf w wr) (fun t _ => m - (intOf t).toNat)
  case atStart =>
    refine ⟨0, by omega, rfl, ?_⟩
    rw [Lz.cnt_zero]
    have := HS.out _ rfl
    rw [hg0] at this
    exact this
  case round =>
    obtain ⟨i, hi, rfl, hr⟩ := hrel
    clear HS
    by_cases hlt : i < m
    · have hid : decide ((i : Int) < (m : Int)) = true := by simp; omega
      obtain ⟨x, hx, hpx, x1, x2, x3, x4⟩ := HAT.out i hlt
      have c1 : wr.cell? ⟨gp, i, none⟩ = some (.int .i32 (x : Int)) := by rw [cellI hr.plc hlt, hpx]
      obtain ⟨b, hb⟩ : ∃ b, f x = b := ⟨_, rfl⟩
      have HC := hideIt (Lz.cnt_next (f := f) hx)
      obtain ⟨c, hc⟩ : ∃ c, Lz.cntF f l i (f x + 1) = c := ⟨_, rfl⟩
      have c2 : wr.cell? ⟨g0, b + 1, none⟩ = some (.int .i32 (c : Int)) := by rw [cellI hr.bgn (by omega), ← hb, hc]
      have cb : c ≤ 1048576 := by have := Lz.cnt_le f l i (f x + 1); have := HL.out; omega
      rw [hc, hb] at HC
      obtain ⟨y, hy⟩ : ∃ y, x + k = y := ⟨_, rfl⟩
      have y3 : y < s.size := by omega
      have xb : ((s[y]'y3).toNat : Int) = (b : Int) := by subst hy; rw [x4 x3, hb]
      obtain ⟨b', hb'⟩ : ∃ b', b + 1 = b' := ⟨_, rfl⟩
      obtain ⟨c', hc'⟩ : ∃ c', c + 1 = c' := ⟨_, rfl⟩
      rw [hb'] at c2
      have fz := frozI (j := b') hr.bgn
      have HP := hideIt ((hr.putB n1 n2 n3 (b + 1) (c + 1)))
      rw [← HC.out, hb', hc'] at HP
      have y1i : (x : Int) + (k : Int) = (y : Int) := by omega
      have b1i : (b : Int) + 1 = (b' : Int) := by omega
      have c1i : (c : Int) + 1 = (c' : Int) := by omega
      have y1 : (y : Int) < (s.size : Int) := by omega
      have bi : (b : Int) < 256 := by omega
      have bi' : (b' : Int) < 257 := by omega
      have ci : (c' : Int) ≤ 1048577 := by omega
      have i1 : (i : Int) < (m : Int) := by omega
      clear hb' hc' hy
      clear hr hx hpx hc hb x4 HC
      go_wp2
      go_roundw
      case rel => exact ⟨i + 1, by omega, by go_num, HP.out⟩
      case measure => simp [intOf]; omega
    · have hid : decide ((i : Int) < (m : Int)) = false := by simp; omega
      obtain rfl : i = m := by omega
      have HR := hideIt hr
      rw [← HL.out, ← Lz.sum_one] at HR
      rw [HL.out] at HR
      clear hr
      go_wp2
      go_loopw [11] (fun t wr => ∃ j q : Nat, q = j + 1 ∧ j ≤ 256 ∧ t = .int .i64 q ∧ SMem N gs gp g0 i pl (Lz.sumF f l q) sf w wr) (fun t _ => 257 - (intOf t).toNat)
      case atStart => exact ⟨0, 1, rfl, by omega, rfl, HR.out⟩
      case round =>
        obtain ⟨j, q, hq, hj, rfl, hr⟩ := hrel
        clear HR
        by_cases hlt : j < 256
        · have hid2 : decide ((q : Int) < 257) = true := by simp; omega
          have a1 := Lz.sum_le f l q q
          have a2 := Lz.sum_le f l q j
          have HC : Hid (Lz.sumF f l (q + 1) = up (Lz.sumF f l q) q (Lz.sumF f l q q + Lz.sumF f l q j)) := by
            refine hideIt ?_
            subst hq
            exact Lz.sum_next f l j
          have c1 := cellI (j := q) hr.bgn (by omega)
          have c2 := cellI (j := j) hr.bgn (by omega)
          have fz := frozI (j := q) hr.bgn
          obtain ⟨a, ha⟩ : ∃ a, Lz.sumF f l q q = a := ⟨_, rfl⟩
          obtain ⟨b, hb⟩ : ∃ b, Lz.sumF f l q j = b := ⟨_, rfl⟩
          obtain ⟨c, hc⟩ : ∃ c, a + b = c := ⟨_, rfl⟩
          have HP := hideIt ((hr.putB n1 n2 n3 q c).drew)
          rw [ha, hb, hc] at HC
          rw [← HC.out] at HP
          rw [ha] at a1 c1
          rw [hb] at a2 c2
          have hl := HL.out
          have ci : (a : Int) + (b : Int) = (c : Int) := by omega
          have cb : (c : Int) ≤ 2097152 := by omega
          have q1 : (q : Int) - 1 = (j : Int) := by omega
          have q2 : (q : Int) < 257 := by omega
          have j2 : (j : Int) < 257 := by omega
          have HQ := hideIt hq
          clear hr ha hb hc HC a1 a2 hl hq
          go_wp2
          go_region
          go_wp2
          go_roundw
          case rel => exact ⟨j + 1, q + 1, by have := HQ.out; omega, by omega, by go_num, HP.out⟩
          case measure => have := HQ.out; simp [intOf]; omega
        · have hid2 : decide ((q : Int) < 257) = false := by simp; omega
          obtain rfl : j = 256 := by omega
          subst hq
          have HR : Hid (SMem N gs gp g0 i pl (Lz.begF f l 0) sf w wr) := by
            refine hideIt ⟨hr.below, hr.srt, hr.plc, ?_⟩
            rw [hr.bgn, rowI_congr (fun j hj => Lz.beg_zero f l hj)]
          clear hr
          go_wp2
          go_loopw [48] (fun t wr => ∃ (q : Nat) (sf : Nat → Nat), q ≤ i ∧ t = .int .i64 q ∧ Lz.Laid f l q sf ∧ SMem N gs gp g0 i pl (Lz.begF f l q) sf w wr) (fun t _ => i - (intOf t).toNat)
          case atStart => exact ⟨0, sf, by omega, rfl, by intro q x hq; omega, HR.out⟩
          case round =>
            obtain ⟨q, sf, hq, rfl, hla, hr⟩ := hrel
            clear HR
            by_cases hlt : q < i
            · have hid3 : decide ((q : Int) < (i : Int)) = true := by simp; omega
              obtain ⟨x, hx, hpx, x1, x2, x3, x4⟩ := HAT.out q hlt
              have c1 : wr.cell? ⟨gp, q, none⟩ = some (.int .i32 (x : Int)) := by rw [cellI hr.plc hlt, hpx]
              obtain ⟨b, hb⟩ : ∃ b, f x = b := ⟨_, rfl⟩
              have HC := hideIt (Lz.beg_next (f := f) hx)
              have hpl := Lz.pos_lt (f := f) hf hx
              have HLA := hideIt (Lz.laid_next hf hla hx)
              rw [← Lz.beg_pos] at hpl HLA
              obtain ⟨c, hc⟩ : ∃ c, Lz.begF f l q (f x) = c := ⟨_, rfl⟩
              rw [hc] at hpl HLA
              have hl := HL.out
              have c2 : wr.cell? ⟨g0, b, none⟩ = some (.int .i32 (c : Int)) := by rw [cellI hr.bgn (by omega), ← hb, hc]
              rw [hc, hb] at HC
              obtain ⟨y, hy⟩ : ∃ y, x + k = y := ⟨_, rfl⟩
              have y3 : y < s.size := by omega
              have xb : ((s[y]'y3).toNat : Int) = (b : Int) := by subst hy; rw [x4 x3, hb]
              obtain ⟨c', hc'⟩ : ∃ c', c + 1 = c' := ⟨_, rfl⟩
              have fz1 := frozI (j := c) hr.srt
              have c4 := cellI (j := c) hr.srt (by omega)
              have HQ := hideIt (hr.putS n1 hne hN c x)
              have fz2 := frozI (j := b) HQ.out.bgn
              have c3 : (wr.setCell ⟨gs, c, none⟩ (.int .i32 (x : Int))).cell? ⟨g0, b, none⟩ = some (.int .i32 (c : Int)) := by rw [cellI HQ.out.bgn (by omega), ← hb, hc]
              have HP := hideIt (HQ.out.putB n1 n2 n3 b (c + 1))
              rw [← HC.out, hc'] at HP
              have y1i : (x : Int) + (k : Int) = (y : Int) := by omega
              have c1i : (c : Int) + 1 = (c' : Int) := by omega
              have y1 : (y : Int) < (s.size : Int) := by omega
              have bi : (b : Int) < 257 := by omega
              have ci : (c : Int) < (i : Int) := by omega
              have i1 : (q : Int) < (i : Int) := by omega
              clear hr hx hpx hc hb x4 HC HQ hla hl hc' hy hpl
              go_wp2
              go_roundw
              case rel => exact ⟨q + 1, _, by omega, by go_num, HLA.out, HP.out⟩
              case measure => simp [intOf]; omega
            · have hid3 : decide ((q : Int) < (i : Int)) = false := by simp; omega
              obtain rfl : q = i := by omega
              have HR : Hid (Below N w wr ∧ wr.heap[gs]? = some (.cells (rowI q (fun i => (Lz.pass f l).getD i 0)) 21 (0, 0)) ∧ wr.heap[gp]? = some (.cells (rowI q pl) 21 (0, 0))) := by
                refine hideIt ⟨hr.below, ?_, hr.plc⟩
                rw [hr.srt, rowI_congr (fun p hp => Lz.laid_end hf HND.out (by rw [HL.out]; exact hla) p (by rw [HL.out]; exact hp))]
              clear hr hla
              go_wp2
              exact bodyPost_end (results_none Tryz.results151 _ _ _) rfl ⟨rfl, HR.out⟩
end Go.Proofs.YtbmhhlkjgnijgaaGreatDoor.Ld
