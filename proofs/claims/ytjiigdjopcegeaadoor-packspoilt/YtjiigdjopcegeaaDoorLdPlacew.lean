/- All places sorted, walked. -/
import Derived.Test.YtjiigdjopcegeaaDoorLdSortw
namespace Go.Proofs.YtjiigdjopcegeaaDoor.Ld
open Cb
open Go.RowKit
structure PMem (N a b m : Nat) (pl sf : Nat → Nat) (w0 w : World) : Prop where
  below : Below N w0 w
  one : w.heap[a]? = some (.cells (rowI m pl) 21 (0, 0))
  two : w.heap[b]? = some (.cells (rowI m sf) 21 (0, 0))
  na : N ≤ a
  nb : N ≤ b
  ne : a ≠ b
structure OMem (N m : Nat) (pl : Nat → Nat) (w0 w : World) : Prop where
  below : Below N w0 w
  one : w.heap[N]? = some (.cells (rowI m pl) 21 (0, 0))
  size : w.heap.size = N + 1
theorem OMem.put {N m : Nat} {pl : Nat → Nat} {w0 w : World} (h : OMem N m pl w0 w) (i v : Nat) : OMem N m (up pl i v) w0 (w.setCell ⟨N, i, none⟩ (.int .i32 (v : Int))) :=
  ⟨h.below.setCell (p := ⟨N, i, none⟩) (Nat.le_refl _) _, row_setI v h.one, by rw [← h.size]; simp [World.setCell]⟩
theorem OMem.two {N m : Nat} {pl : Nat → Nat} {w0 w : World} (h : OMem N m pl w0 w) : PMem N N (N + 1) m pl (fun _ => 0) w0 (w.alloc (.cells (rowI m fun _ => 0) 21)) := by
  have hs := h.size
  exact ⟨h.below.alloc (by omega) _, by rw [Below.heap_alloc _ _ _ (by omega)]; exact h.one, alloc_at hs, Nat.le_refl _, by omega, by omega⟩
def firstF (i j : Nat) : Nat := if j < i then j else 0
theorem first_next (i : Nat) : firstF (i + 1) = up (firstF i) i i := by
  funext j
  show (if j < i + 1 then j else 0) = if j = i then i else if j < i then j else 0
  repeat' split
  all_goals omega
theorem first_end (m : Nat) : rowI m (firstF m) = rowI m (fun i => (List.range m).getD i 0) := by
  refine rowI_congr (fun i hi => ?_)
  simp [firstF, hi, List.getD]
set_option maxHeartbeats 800000 in
set_option maxRecDepth 100000 in
theorem places_any (s : ByteArray) (w : World) (hs : s.size ≤ 1048576) :
    Calls Tryd.prog 46 #[.string s] w fun e w' => ∃ g, e = .returned (.slice (some ⟨g, 0, none⟩) (Lz.many s.data.toList) (Lz.many s.data.toList)) ∧ w.heap.size ≤ g ∧ Below w.heap.size w w' ∧
      w'.heap[g]? = some (.cells (rowI (Lz.many s.data.toList) (fun i => (Lz.places s.data.toList).getD i 0)) 21 (0, 0)) := by
  obtain ⟨L, hL⟩ : ∃ L, s.data.toList = L := ⟨_, rfl⟩
  rw [hL]
  obtain ⟨m, hm⟩ : ∃ m, Lz.many L = m := ⟨_, rfl⟩
  have hm2 : m = s.size - 3 := by rw [← hm, Lz.many, ← hL, str_len]
  rw [hm]
  have hmx : (if (s.size : Int) - 4 + 1 < 0 then (0 : Int) else (s.size : Int) - 4 + 1) = (m : Int) := by split <;> omega
  have hmx2 : (if (0 : Int) > (s.size : Int) - 4 + 1 then (0 : Int) else (s.size : Int) - 4 + 1) = (m : Int) := by split <;> omega
  have si : (s.size : Int) ≤ 1048576 := by omega
  have mi : (m : Int) ≤ 1048576 := by omega
  have hmk := run_make_ints .i64 m (by omega) w
  have HM := hideIt hm
  have HL := hideIt hL
  have HM2 := hideIt hm2
  have HO := hideIt (show OMem w.heap.size m (firstF 0) w (w.alloc (.cells (rowI m fun _ => 0) 21)) from ⟨(Below.refl _ _).alloc (Nat.le_refl _) _, by rw [alloc_at rfl, rowI_congr (f := firstF 0) (g := fun _ => 0) (fun i _ => by simp [firstF])], by simp⟩)
  obtain ⟨N, hN⟩ : ∃ N, w.heap.size = N := ⟨_, rfl⟩
  clear hm hL hm2
  go_enter Tryd.func46, Tryd.ntmps46
  go_wp2
  go_loopw [15] (fun t wr => ∃ i : Nat, i ≤ m ∧ t = .int .i64 i ∧ OMem N m (firstF i) w wr) (fun t _ => m - (intOf t).toNat)
  case atStart => exact ⟨0, by omega, rfl, by rw [← hN]; exact HO.out⟩
  case round =>
    obtain ⟨i, hi, rfl, hr⟩ := hrel
    clear HO hmk hmx hmx2
    by_cases hlt : i < m
    · have hid : decide ((i : Int) < (m : Int)) = true := by simp; omega
      have c1 := cellI hr.one hlt
      have fz := frozI (j := i) hr.one
      have HP := hideIt (hr.put i i)
      rw [← first_next] at HP
      have i1 : (i : Int) < (m : Int) := by omega
      clear hr
      go_wp2
      go_roundw
      case rel => exact ⟨i + 1, by omega, by go_num, HP.out⟩
      case measure => simp [intOf]; omega
    · have hid : decide ((i : Int) < (m : Int)) = false := by simp; omega
      obtain rfl : i = m := by omega
      have hmk2 := run_make_ints .i64 i (by omega) wr
      have hsz := hr.size
      have HR : Hid (PMem N N (N + 1) i (fun j => (Lz.stage L 0).getD j 0) (fun _ => 0) w (wr.alloc (.cells (rowI i fun _ => 0) 21))) := by
        have := hr.two
        refine hideIt ⟨this.below, ?_, this.two, this.na, this.nb, this.ne⟩
        rw [this.one, first_end]
        show _ = some (Obj.cells (rowI i fun j => (List.range (Lz.many L)).getD j 0) 21 (0, 0))
        rw [HM.out]
      clear hr
      go_wp2
      go_loopw [3, 5, 6] (fun a b t wr => ∃ (k : Nat) (z : Int) (ga gb : Nat) (sf : Nat → Nat), k ≤ 4 ∧ z + k = 3 ∧ t = .int .i64 z ∧ a = .slice (some ⟨ga, 0, none⟩) i i ∧ b = .slice (some ⟨gb, 0, none⟩) i i ∧ PMem N ga gb i (fun j => (Lz.stage L k).getD j 0) sf w wr) (fun _ _ t _ => (intOf t + 1).toNat)
      case atStart => exact ⟨0, 3, N, N + 1, _, by omega, by omega, rfl, rfl, by first | rfl | rw [hsz], HR.out⟩
      case round =>
        obtain ⟨k, z, ga, gb, sf, hk, hz, rfl, rfl, rfl, hr⟩ := hrel
        clear HR hmk2 hsz
        by_cases hk4 : k < 4
        · obtain ⟨q, rfl⟩ : ∃ q : Nat, z = (q : Int) := ⟨z.toNat, by omega⟩
          have hq : q = 3 - k := by omega
          have HC := hideIt (sort_any N gb ga i q (Lz.stage L k) s sf wr (by rw [Lz.stage_len]; exact HM.out) (Lz.stage_nodup L k) (by
            intro x hx
            have h1 := Lz.stage_lt L k hx
            rw [HM.out] at h1
            have := HM2.out
            omega) hs (by omega) hr.ne hr.nb (by omega) hr.two hr.one)
          rw [HL.out] at HC
          have HK : Hid (PMem N ga gb i (fun j => (Lz.stage L k).getD j 0) sf w wr ∧ Lz.pass (Lz.key L q) (Lz.stage L k) = Lz.stage L (k + 1)) := hideIt ⟨hr, by rw [hq]; rfl⟩
          rw [HK.out.2] at HC
          have HZ := hideIt hz
          have q3 : (q : Int) ≤ 3 := by omega
          clear hr hz hq
          go_wp2_with (first | (go_at_call 57; refine HC.out.mono ?_; rintro e w1 ⟨rfl, hb1, hr1, hr2⟩))
          go_roundw
          case rel =>
            have h := HK.out.1
            exact ⟨k + 1, (q : Int) - 1, gb, ga, _, by omega, by have := HZ.out; push_cast; omega, rfl, rfl, rfl, h.below.trans hb1, hr1, hr2, h.nb, h.na, h.ne.symm⟩
          case measure => simp [intOf]
        · have hz1 : z = -1 := by omega
          obtain rfl : k = 4 := by omega
          subst hz1
          have HR := hideIt hr
          clear hr
          go_wp2
          go_ret
          exact ⟨ga, rfl, by rw [hN]; exact HR.out.na, by rw [hN]; exact HR.out.below, HR.out.one⟩
end Go.Proofs.YtjiigdjopcegeaaDoor.Ld
