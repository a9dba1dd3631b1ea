/- Numbers and bytes appended to a row that is the call's own, walked. -/
import Derived.Test.YtbmhhlkjgnijgaaGreatDoorLdBackw
namespace Go.Proofs.YtbmhhlkjgnijgaaGreatDoor.Ld
open Cb
open Go.RowKit
theorem str_u8s (s : ByteArray) : Lib.strCells s = u8s s.data.toList := by
  simp [Lib.strCells, u8s]
theorem own_keep {B n : Nat} {v : Value} {xs : List Value} {w w' : World} (h : w.ownsRow B 5 1 v n xs) (hk : ∀ g, g < w.heap.size → w'.heap[g]? = w.heap[g]?) : w'.ownsRow B 5 1 v n xs := by
  refine ⟨h.1, ?_⟩
  rcases h.2 with h | ⟨g, cap, cur, e, hb, hh, r⟩
  · exact Or.inl h
  · exact Or.inr ⟨g, cap, cur, e, hb, by rw [hk g (Array.getElem?_eq_some_iff.1 hh).1]; exact hh, r⟩
/-- A row of bytes behind appending: the bytes, and what is of another type is as it was. -/
structure Grew (B : Nat) (w w' : World) (v' : Value) (L : List UInt8) : Prop where
  own : w'.ownsRow B 5 1 v' L.length (u8s L)
  below : Below B w w'
  keep : ∀ (g : Nat) (cs : Array Value) (t : TypeId) (fr : Nat × Nat), t ≠ 5 → w.heap[g]? = some (.cells cs t fr) → w'.heap[g]? = some (.cells cs t fr)
theorem own_other {B n g : Nat} {w : World} {v : Value} {xs : List Value} {cs : Array Value} {t : TypeId} {fr : Nat × Nat} (hv : w.ownsRow B 5 1 v n xs) (hg : w.heap[g]? = some (.cells cs t fr)) (ht : t ≠ 5) : some g ≠ v.ownBlock := by
  intro e
  rcases hv.2 with ⟨rfl, _⟩ | ⟨g', cap, cur, rfl, _, hh, _⟩
  · simp [Value.ownBlock] at e
  · simp [Value.ownBlock] at e
    subst e
    rw [hg] at hh
    simp only [Option.some.injEq, Obj.cells.injEq] at hh
    exact ht hh.2.1
theorem Grew.trans {B : Nat} {w w1 w2 : World} {v1 v2 : Value} {L L2 : List UInt8} (h : Grew B w w1 v1 L) (k : Grew B w1 w2 v2 L2) : Grew B w w2 v2 L2 :=
  ⟨k.own, h.below.trans k.below, fun g cs t fr ht hg => k.keep g cs t fr ht (h.keep g cs t fr ht hg)⟩
/-- Behind one append. -/
theorem Grew.of {B n : Nat} {w w1 w2 : World} {v v' : Value} {L M : List UInt8} (hown : w.ownsRow B 5 1 v L.length (u8s L)) (hB : B ≤ w.heap.size) (hb : Below w.heap.size w w1) (hn : n = L.length + M.length) (h2 : w2.ownsRow B 5 1 v' n (u8s L ++ u8s M)) (hg : w1.grownBy w2 v.ownBlock) : Grew B w w2 v' (L ++ M) := by
  refine ⟨?_, (hb.mono hB).grown hg (Nat.le_trans hB hb.size) (own_ge hown), fun g cs t fr ht hc => ?_⟩
  · rw [List.length_append, ← hn, u8s_append]; exact h2
  · have hs := (Array.getElem?_eq_some_iff.1 hc).1
    rw [hg.block g (Nat.lt_of_lt_of_le hs hb.size) (own_other hown hc ht), hb.block g hs]
    exact hc
set_option maxHeartbeats 400000 in
set_option maxRecDepth 100000 in
theorem appnum_any (B n : Nat) (v : Value) (L : List UInt8) (w : World) (hown : w.ownsRow B 5 1 v L.length (u8s L)) (hB : B ≤ w.heap.size) (hn : n ≤ 1000000000) (hL : L.length ≤ 1000000000) :
    Calls Tryz.prog 64 #[v, .int .i64 (n : Int)] w fun e w' => ∃ v', e = .returned v' ∧ Grew B w w' v' (L ++ Cd.numL n) := by
  obtain ⟨i0, hi0, hz0, hz1, hz2⟩ := info_parts infoB
  have HN := hideIt (num_any n w (by omega))
  obtain ⟨a, ha⟩ : ∃ a, bs (Cd.numL n) = a := ⟨_, rfl⟩
  rw [ha] at HN
  have al : a.data.toList = Cd.numL n := by rw [← ha, bs_list]
  have asz : a.size ≤ 10 := by
    rw [← ha, bs_size, Cd.numL, List.length_reverse, Cd.numR, List.length_cons]
    have := Cd.more_len 9 n (by omega)
    omega
  have ni : (n : Int) ≤ 1000000000 := by omega
  have HO := hideIt (fun (w1 : World) (hb : Below w.heap.size w w1) => own_keep hown hb.block)
  have HF : Hid (∀ (w1 w2 : World) (v' : Value), Below w.heap.size w w1 → w2.ownsRow B 5 1 v' (L.length + a.size) (u8s L ++ Lib.strCells a) → w1.grownBy w2 v.ownBlock → Grew B w w2 v' (L ++ Cd.numL n)) := by
    refine hideIt (fun w1 w2 v' hb h2 hg => ?_)
    rw [str_u8s, al] at h2
    exact Grew.of hown hB hb (by rw [← al, str_len]) h2 hg
  clear ha al hown
  go_enter Tryz.func64, Tryz.ntmps64
  go_wp2_with (first | (go_at_call 113; refine HN.out.mono ?_; rintro e w1 ⟨rfl, hb1⟩) | (at_builtin; refine Lib.wpList_append_own_string _ rfl (.tmp 5) (.tmp 8) 90 9 rfl B 5 i0 Tryz.underlying90 Tryz.underlying9 hi0 hz0 hz1 hz2 _ L.length (u8s L) rfl (HO.out _ hb1) a rfl (by unfold maxLen; omega) (by omega) (Nat.le_trans hB hb1.size) ?_; intro v' w2 hown2 hg2 hs2))
  go_ret
  exact ⟨v', rfl, HF.out _ _ _ hb1 hown2 hg2⟩
set_option maxHeartbeats 400000 in
set_option maxRecDepth 100000 in
theorem appalone_any (B : Nat) (s : ByteArray) (v : Value) (L : List UInt8) (w : World) (hown : w.ownsRow B 5 1 v L.length (u8s L)) (hB : B ≤ w.heap.size) (hs : s.size ≤ 1000000000) (hL : L.length ≤ 1000000000) :
    Calls Tryz.prog 67 #[v, .string s] w fun e w' => ∃ v', e = .returned v' ∧ Grew B w w' v' (L ++ Cd.numL s.size ++ s.data.toList) := by
  obtain ⟨i0, hi0, hz0, hz1, hz2⟩ := info_parts infoB
  have HN := hideIt (appnum_any B s.size v L w hown hB hs hL)
  obtain ⟨M, hM⟩ : ∃ M, L ++ Cd.numL s.size = M := ⟨_, rfl⟩
  have hML : M.length ≤ 1000000010 := by
    rw [← hM, List.length_append, Cd.numL, List.length_reverse, Cd.numR, List.length_cons]
    have := Cd.more_len 9 s.size (by omega)
    omega
  rw [hM] at HN ⊢
  have si : (s.size : Int) ≤ 1000000000 := by omega
  have HF : Hid (∀ (w1 w2 : World) (v1 v' : Value), Grew B w w1 v1 M → w2.ownsRow B 5 1 v' (M.length + s.size) (u8s M ++ Lib.strCells s) → w1.grownBy w2 v1.ownBlock → Grew B w w2 v' (M ++ s.data.toList)) := by
    refine hideIt (fun w1 w2 v1 v' hb h2 hg => ?_)
    rw [str_u8s] at h2
    exact hb.trans (Grew.of hb.own (Nat.le_trans hB hb.below.size) (Below.refl _ _) (by rw [str_len]) h2 hg)
  clear hown hM
  go_enter Tryz.func67, Tryz.ntmps67
  go_wp2_with (first | (go_at_call 64; refine HN.out.mono ?_; rintro e w1 ⟨v1, rfl, hb1⟩) | (at_builtin; refine Lib.wpList_append_own_string _ rfl (.tmp 8) (.tmp 9) 90 9 rfl B 5 i0 Tryz.underlying90 Tryz.underlying9 hi0 hz0 hz1 hz2 _ M.length (u8s M) rfl hb1.own s rfl (by unfold maxLen; omega) (by omega) (Nat.le_trans hB hb1.below.size) ?_; intro v' w2 hown2 hg2 hs2))
  go_ret
  exact ⟨v', rfl, HF.out _ _ _ _ hb1 hown2 hg2⟩
theorem same_data (s : ByteArray) (a b : Nat) (ha : a < s.size) (hb : b < s.size) : Lz.same (s.data.toList.drop a) (s.data.toList.drop b) = if s[a] = s[b] then Lz.same (s.data.toList.drop (a + 1)) (s.data.toList.drop (b + 1)) + 1 else 0 := by
  rw [drop_one' s a ha, drop_one' s b hb, Lz.same]
theorem same_none (s : ByteArray) (a b : Nat) (hb : s.size ≤ b) : Lz.same (s.data.toList.drop a) (s.data.toList.drop b) = 0 := by
  rw [List.drop_of_length_le (i := b) (by rw [str_len]; exact hb)]
  cases s.data.toList.drop a <;> rfl
set_option maxHeartbeats 800000 in
set_option maxRecDepth 100000 in
theorem same_any (s : ByteArray) (a b : Nat) (w : World) (hab : a ≤ b) (hb : b ≤ s.size) (hs : s.size ≤ 1048576) :
    Calls Tryz.prog 66 #[.string s, .int .i64 (a : Int), .int .i64 (b : Int)] w fun e w' => e = .returned (.int .i64 ((Lz.same (s.data.toList.drop a) (s.data.toList.drop b) : Nat) : Int)) ∧ Below w.heap.size w w' := by
  have si : (s.size : Int) ≤ 1048576 := by omega
  go_enter Tryz.func66, Tryz.ntmps66
  go_wp2
  go_loopw [7] (fun t wr => ∃ i : Nat, b + i ≤ s.size ∧ t = .int .i64 i ∧ Lz.same (s.data.toList.drop a) (s.data.toList.drop b) = i + Lz.same (s.data.toList.drop (a + i)) (s.data.toList.drop (b + i)) ∧ Below w.heap.size w wr) (fun t _ => s.size - (intOf t).toNat)
  case atStart => exact ⟨0, by omega, rfl, by simp, Below.refl _ _⟩
  case round =>
    obtain ⟨i, hi, rfl, he, hr⟩ := hrel
    have HR := hideIt (fun q => hr.trans (c := wr.drewN q) ⟨rfl, rfl, rfl, Nat.le_refl _, fun _ _ => rfl⟩)
    obtain ⟨x, hx⟩ : ∃ x, a + i = x := ⟨_, rfl⟩
    obtain ⟨y, hy⟩ : ∃ y, b + i = y := ⟨_, rfl⟩
    have x1 : (a : Int) + (i : Int) = (x : Int) := by omega
    have y1 : (b : Int) + (i : Int) = (y : Int) := by omega
    by_cases hlt : y < s.size
    · have hid : decide ((y : Int) < (s.size : Int)) = true := by simp; omega
      have x2 : (x : Int) < (s.size : Int) := by omega
      have y2 : (y : Int) < (s.size : Int) := by omega
      have x3 : x < s.size := by omega
      have hsame := same_data s x y x3 hlt
      rw [hx, hy, hsame] at he
      by_cases hc : s[x] = s[y]
      · have HE := hideIt he
        rw [if_pos hc] at HE
        have hc1 : ((s[x]'x3).toNat : Int) = ((s[y]'hlt).toNat : Int) := by rw [hc]
        have HXY := hideIt (And.intro hx hy)
        clear he hsame hx hy hr hc
        go_wp2
        go_quiet (fail)
        go_wp2
        go_roundw
        case rel =>
          obtain ⟨h1, h2⟩ := HXY.out
          refine ⟨i + 1, by omega, by go_num, ?_, HR.out _⟩
          rw [HE.out, ← h1, ← h2, Nat.add_assoc a, Nat.add_assoc b]
          omega
        case measure => have := HXY.out; simp [intOf]; omega
      · have HE := hideIt he
        rw [if_neg hc] at HE
        obtain ⟨u, hu⟩ : ∃ u, (s[x]'x3).toNat = u := ⟨_, rfl⟩
        obtain ⟨v, hv⟩ : ∃ v, (s[y]'hlt).toNat = v := ⟨_, rfl⟩
        have hne : ¬ u = v := by
          intro e
          apply hc
          rw [← hu, ← hv] at e
          exact UInt8.toNat_inj.1 e
        have u1 : ((s[x]'x3).toNat : Int) = (u : Int) := by rw [hu]
        have v1 : ((s[y]'hlt).toNat : Int) = (v : Int) := by rw [hv]
        have hne1 : ¬ (u : Int) = (v : Int) := by omega
        have hne2 : decide ((u : Int) = (v : Int)) = false := decide_eq_false hne1
        have hne3 : ((u : Int) == (v : Int)) = false := beq_eq_false_iff_ne.2 hne1
        clear he hsame hx hy hr hc hu hv
        go_wp2
        go_quiet (fail)
        go_wp2
        go_ret
        exact ⟨by rw [HE.out]; rfl, HR.out _⟩
    · have hid : decide ((y : Int) < (s.size : Int)) = false := by simp; omega
      have HE : Hid (Lz.same (s.data.toList.drop a) (s.data.toList.drop b) = i) := by
        refine hideIt ?_
        rw [he, hx, hy, same_none s x y (by omega)]; omega
      clear he hx hy hr
      go_wp2
      go_quiet (fail)
      go_wp2
      go_ret
      exact ⟨by rw [HE.out]; rfl, HR.out _⟩
end Go.Proofs.YtbmhhlkjgnijgaaGreatDoor.Ld
