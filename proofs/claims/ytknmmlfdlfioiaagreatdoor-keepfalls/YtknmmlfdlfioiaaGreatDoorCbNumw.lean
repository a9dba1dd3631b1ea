/- A number's bytes, walked: the program's own. -/
import Derived.Test.YtknmmlfdlfioiaaGreatDoorCbRevw
import Derived.Laws.BitsAllLaws
namespace Go.Proofs.YtknmmlfdlfioiaaGreatDoor.Cb
open Go.RowKit
theorem one_cellN {w : World} (x : UInt8) (X : Value) (hx : X = .int .u8 (x.toNat : Int)) (j : Nat) (u : Value) (h : (u8s [x])[j]? = some u) :
    (w.alloc (.cells #[X] 5)).cell? ((⟨w.heap.size, 0, none⟩ : Addr).add j) = some u := by
  subst hx
  rw [Addr.add_lit, Nat.zero_add, World.cell?_alloc_at _ _ _ _ rfl]
  match j, h with
  | 0, h => simpa [u8s] using h
theorem and127 (m : Nat) (h : m < 18446744073709551616) : bits .and .u64 (m : Int) 127 = ((m % 128 : Nat) : Int) := by
  have := u64_and_nat m 127 h (by omega)
  rw [show (m &&& 127) = m % 128 from Nat.and_two_pow_sub_one_eq_mod m 7] at this
  exact this
theorem or128 (x : Nat) (h : x < 128) : bits .or .u64 128 (x : Int) = ((128 + x : Nat) : Int) := by
  have := u64_or_nat 128 x (by omega) (by omega)
  rw [show (128 ||| x) = 128 + x from (Nat.two_pow_add_eq_or_of_lt (i := 7) h 1).symm] at this
  exact this
structure NumMem (N n m : Nat) (L : List UInt8) (v : Value) (w0 w : World) : Prop where
  below : Below N w0 w
  own : w.ownsRow N 5 1 v L.length (u8s L)
  is : ∃ g c, v = .slice (some ⟨g, 0, none⟩) L.length c
  tells : Cd.numR n = L ++ Cd.more m
theorem NumMem.len {N n m : Nat} {L : List UInt8} {v : Value} {w0 w : World} (h : NumMem N n m L v w0 w) (hn : n < 18446744073709551616) : L.length ≤ 10 := by
  have h1 := congrArg List.length h.tells
  have h2 := Cd.more_len 9 n (by omega)
  rw [Cd.numR, List.length_cons, List.length_append] at h1
  omega
theorem NumMem.next {N n m : Nat} {L : List UInt8} {v v' : Value} {w0 w w2 : World} {o : Obj} {x : UInt8} (h : NumMem N n m L v w0 w) (hN : N ≤ w0.heap.size) (hm : ¬ m < 128) (hx : UInt8.ofNat (128 + (m / 128 - 1) % 128) = x)
    (h2 : w2.ownsRow N 5 1 v' (L.length + 1) (u8s L ++ u8s [x])) (hg : (w.alloc o).grownBy w2 v.ownBlock) (hs : v' = .slice none 0 0 ↔ v = .slice none 0 0 ∧ 1 = 0) : NumMem N n (m / 128 - 1) (L ++ [x]) v' w0 w2 := by
  have hb := h.below.size
  refine ⟨(h.below.alloc (by omega) o).grown hg (by simp; omega) (own_ge h.own), by rw [u8s_append, List.length_append]; exact h2, ?_, ?_⟩
  · rcases h2.2 with ⟨e, _⟩ | ⟨g, c, _, e, _⟩
    · have := (hs.1 e).2; omega
    · exact ⟨g, c, by rw [e]; simp⟩
  · rw [h.tells, Cd.more_big hm, hx]; simp
theorem NumMem.start {n : Nat} (w : World) (x : UInt8) (X : Value) (hX : X = .int .u8 (x.toNat : Int)) (hx : UInt8.ofNat (n % 128) = x) : NumMem w.heap.size n n [x] (.slice (some ⟨w.heap.size, 0, none⟩) 1 1) w (w.alloc (.cells #[X] 5)) := by
  subst hX hx
  exact ⟨(Below.refl _ _).alloc (Nat.le_refl _) _, ⟨rfl, Or.inr ⟨w.heap.size, 1, _, rfl, Nat.le_refl _, alloc_at rfl, Nat.le_refl _, by unfold maxLen; omega, rfl, rfl⟩⟩, ⟨_, _, rfl⟩, rfl⟩
/-- The row that is turned around. -/
theorem own_row {N n g c : Nat} {l : List UInt8} {w : World} (h : w.ownsRow N 5 1 (.slice (some ⟨g, 0, none⟩) n c) n (u8s l)) : N ≤ g ∧ ∃ rest : List Value, w.heap[g]? = some (.cells (rowR l rest) 5 (0, 0)) := by
  rcases h.2 with ⟨e, _⟩ | ⟨g', c', cur, e, hb, hh, _, _, _, ht⟩
  · cases e
  · simp only [Value.slice.injEq, Option.some.injEq, Addr.mk.injEq, and_true, true_and] at e
    obtain ⟨rfl, rfl⟩ := e
    refine ⟨hb, cur.toList.drop (n * 1), ?_⟩
    rw [hh, rowR, ← ht, List.take_append_drop]
theorem rowR_str (l : List UInt8) (rest : List Value) (w : World) (g : Nat) (h : w.heap[g]? = some (.cells (rowR l rest) 5 (0, 0))) (n c : Nat) (hn : l.length = n) :
    (convert 86 9 (.slice (some ⟨g, 0, none⟩) n c)).run Tryz.prog w = .ok (.string (bs l)) w := by
  subst hn
  rw [← ints_back]
  refine run_convert_bytes_arg (P := Tryz.prog) w 86 5 Tryz.underlying86 Tryz.underlying5 g 0 l.length c _ (by simp) (fun i hi => ?_) 9 Tryz.underlying9
  rw [Nat.zero_add, cell_of_row _ _ i _ _ _ h, rowR_at _ _ _ hi]
  simp [List.getD, hi]
set_option maxHeartbeats 800000 in
set_option maxRecDepth 100000 in
theorem num_any (n : Nat) (w : World) (hn : n < 18446744073709551616) :
    Calls Tryz.prog 44 #[.int .u64 (n : Int)] w fun e w' => e = .returned (.string (bs (Cd.numL n))) ∧ Below w.heap.size w w' := by
  obtain ⟨i0, hi0, hz0, hz1, hz2⟩ := info_parts infoB
  have e127 := and127 n hn
  obtain ⟨x, hx⟩ : ∃ x, UInt8.ofNat (n % 128) = x := ⟨_, rfl⟩
  have hxn : ((n % 128 : Nat) : Int) = (x.toNat : Int) := by rw [← hx, UInt8.toNat_ofNat']; omega
  rw [hxn] at e127
  have hxl := x.toNat_lt
  have x1 : (x.toNat : Int) < 256 := by omega
  have x2 : (0 : Int) ≤ (x.toNat : Int) := by omega
  have H0 := hideIt (NumMem.start w x _ rfl hx)
  clear hx hxn
  go_enter Tryz.func44, Tryz.ntmps44
  go_wp2
  go_loopw [0, 3] (fun t v wr => ∃ m : Nat, m ≤ n ∧ t = .int .u64 m ∧ ∃ L, NumMem w.heap.size n m L v w wr) (fun t _ _ => (intOf t).toNat)
  case atStart => exact ⟨n, by omega, rfl, _, H0.out⟩
  case round =>
    obtain ⟨m, hm, rfl, L, hr⟩ := hrel
    clear e127 H0 x1 x2 hxl
    by_cases hlt : m < 128
    · have hid : decide ((128 : Int) ≤ (m : Int)) = false := decide_eq_false (by omega)
      have hid2 : ¬ (128 : Int) ≤ (m : Int) := by omega
      obtain ⟨g, c, hg⟩ := hr.is
      subst hg
      obtain ⟨hgN, rest, hrow⟩ := own_row hr.own
      have hL := hr.len hn
      have ht := hr.tells
      rw [Cd.more_small hlt, List.append_nil] at ht
      have hL1 : 1 ≤ L.length := by rw [← ht, Cd.numR, List.length_cons]; omega
      obtain ⟨k, hk⟩ : ∃ k, L.length = k := ⟨_, rfl⟩
      have HR := hideIt (rev_any g k c L rest wr hk (by omega) (by omega) hrow)
      have HN := hideIt ht
      have HB := hideIt hr.below
      have HK := hideIt hk
      rw [hk]
      clear hr hrow hL hL1 ht hk
      go_wp2_with (first | (go_at_call 73; refine HR.out.mono ?_; rintro e w1 ⟨rfl, hv⟩; have hcv := rowR_str L.reverse rest w1 g hv.row k c (by rw [List.length_reverse]; exact HK.out)))
      go_ret
      refine ⟨by rw [Cd.numL, HN.out]; rfl, ?_⟩
      exact HB.out.trans (hv.below.mono hgN)
    · have hid : decide ((128 : Int) ≤ (m : Int)) = true := decide_eq_true (by omega)
      have hid2 : (128 : Int) ≤ (m : Int) := by omega
      obtain ⟨p, hp⟩ : ∃ p, m / 128 - 1 = p := ⟨_, rfl⟩
      have p1 : (m : Int) / 128 - 1 = (p : Int) := by omega
      have p2 := and127 p (by omega)
      have p3 := or128 (p % 128) (by omega)
      obtain ⟨y, hy⟩ : ∃ y, UInt8.ofNat (128 + p % 128) = y := ⟨_, rfl⟩
      have hyn : y.toNat = 128 + p % 128 := by rw [← hy, UInt8.toNat_ofNat']; omega
      obtain ⟨q, hq⟩ : ∃ q, p % 128 = q := ⟨_, rfl⟩
      rw [hq] at p2 p3 hyn
      rw [← hyn] at p3
      have y1 : (y.toNat : Int) < 256 := by omega
      have y2 : (0 : Int) ≤ (y.toNat : Int) := by omega
      have q1 : (q : Int) < 128 := by omega
      have hL := hr.len hn
      have HX := hideIt (fun (v' : Value) (w2 : World) (o : Obj) => hr.next (v' := v') (w2 := w2) (o := o) (x := y) (Nat.le_refl _) hlt (by rw [hp]; exact hy))
      have own := hr.own
      have HB := hideIt hr.below
      have m64 : (m : Int) < 18446744073709551616 := by omega
      rw [hp] at HX
      have HP := hideIt hp
      clear hp hy hyn hq hr
      go_wp2_with (first | (at_builtin; refine wpList_append_own _ rfl (.tmp 13) (.tmp 18) 86 rfl w.heap.size 5 i0 (.int .u8 0) 1 1 Tryz.underlying86 hi0 hz0 hz1 hz2 rfl (by decide) u3 _ _ rfl (own.alloc _) ⟨wr.heap.size, 0, none⟩ 1 1 (u8s [y]) rfl rfl (one_cellN y _ rfl) (u8s_one _) (by unfold maxLen; omega) (by omega) (by have := HB.out.size; simp; omega) ?_; intro v' w2 hown2 hg2 hs2))
      have R := HX.out v' w2 _ hown2 hg2 hs2
      clear hown2 hg2 hs2 own
      go_wp2
      go_roundw
      case rel => exact ⟨p, by have := HP.out; omega, rfl, _, R⟩
      case measure => have := HP.out; simp [intOf]; omega
end Go.Proofs.YtknmmlfdlfioiaaGreatDoor.Cb
