/- Indexes: bytes appended to a row of the call's own; a number's four bytes: walked. -/
import Derived.Test.YtllpfpbpdgpnkaaDoorIxXn
import Derived.Test.YtllpfpbpdgpnkaaDoorIxYp
import Derived.Laws.BitsAllLaws
import Derived.Lib.AppendStr
namespace Go.Proofs.YtllpfpbpdgpnkaaDoor.Ix
open Cb Go.RowKit Go.Shelf
theorem str_u8s (s : ByteArray) : Lib.strCells s = u8s s.data.toList := by
  simp [Lib.strCells, u8s]
theorem own_keep {B n : Nat} {v : Value} {xs : List Value} {w w' : World} (h : w.ownsRow B 5 1 v n xs) (hk : ∀ g, g < w.heap.size → w'.heap[g]? = w.heap[g]?) : w'.ownsRow B 5 1 v n xs := by
  refine ⟨h.1, ?_⟩
  rcases h.2 with h | ⟨g, cap, cur, e, hb, hh, r⟩
  · exact Or.inl h
  · exact Or.inr ⟨g, cap, cur, e, hb, by rw [hk g (Array.getElem?_eq_some_iff.1 hh).1]; exact hh, r⟩
/-- A row of bytes behind appending: the bytes, and what is of another type is as it was. -/
structure Grew (B : Nat) (w w' : World) (v' : Value) (L : List UInt8) : Prop where
  own : w'.ownsRow B 5 1 v' L.length (u8s L)
  below : Below B w w'
  keep : ∀ (g : Nat) (cs : Array Value) (t : TypeId) (fr : Nat × Nat), t ≠ 5 → w.heap[g]? = some (.cells cs t fr) → w'.heap[g]? = some (.cells cs t fr)
theorem own_other {B n g : Nat} {w : World} {v : Value} {xs : List Value} {cs : Array Value} {t : TypeId} {fr : Nat × Nat} (hv : w.ownsRow B 5 1 v n xs) (hg : w.heap[g]? = some (.cells cs t fr)) (ht : t ≠ 5) : some g ≠ v.ownBlock := by
  intro e
  rcases hv.2 with ⟨rfl, _⟩ | ⟨g', cap, cur, rfl, _, hh, _⟩
  · simp [Value.ownBlock] at e
  · simp [Value.ownBlock] at e
    subst e
    rw [hg] at hh
    simp only [Option.some.injEq, Obj.cells.injEq] at hh
    exact ht hh.2.1
theorem Grew.trans {B : Nat} {w w1 w2 : World} {v1 v2 : Value} {L L2 : List UInt8} (h : Grew B w w1 v1 L) (k : Grew B w1 w2 v2 L2) : Grew B w w2 v2 L2 :=
  ⟨k.own, h.below.trans k.below, fun g cs t fr ht hg => k.keep g cs t fr ht (h.keep g cs t fr ht hg)⟩
/-- Behind one append. -/
theorem Grew.of {B n : Nat} {w w1 w2 : World} {v v' : Value} {L M : List UInt8} (hown : w.ownsRow B 5 1 v L.length (u8s L)) (hB : B ≤ w.heap.size) (hb : Below w.heap.size w w1) (hn : n = L.length + M.length) (h2 : w2.ownsRow B 5 1 v' n (u8s L ++ u8s M)) (hg : w1.grownBy w2 v.ownBlock) : Grew B w w2 v' (L ++ M) := by
  refine ⟨?_, (hb.mono hB).grown hg (Nat.le_trans hB hb.size) (own_ge hown), fun g cs t fr ht hc => ?_⟩
  · rw [List.length_append, ← hn, u8s_append]; exact h2
  · have hs := (Array.getElem?_eq_some_iff.1 hc).1
    rw [hg.block g (Nat.lt_of_lt_of_le hs hb.size) (own_other hown hc ht), hb.block g hs]
    exact hc
theorem Grew.str {B n : Nat} {w w1 w2 : World} {v v' : Value} {L M : List UInt8} (hown : w.ownsRow B 5 1 v L.length (u8s L)) (hB : B ≤ w.heap.size) (hb : Below w.heap.size w w1) (hn : n = L.length + M.length) (h2 : w2.ownsRow B 5 1 v' n (u8s L ++ Lib.strCells (bs M))) (hg : w1.grownBy w2 v.ownBlock) : Grew B w w2 v' (L ++ M) := by
  rw [str_u8s, bs_list] at h2
  exact Grew.of hown hB hb hn h2 hg
theorem one_cellN {w : World} (x : UInt8) (X : Value) (hx : X = .int .u8 (x.toNat : Int)) (j : Nat) (u : Value) (h : (u8s [x])[j]? = some u) :
    (w.alloc (.cells #[X] 5)).cell? ((⟨w.heap.size, 0, none⟩ : Addr).add j) = some u := by
  subst hx
  rw [Addr.add_lit, Nat.zero_add, World.cell?_alloc_at _ _ _ _ rfl]
  match j, h with
  | 0, h => simpa [u8s] using h
theorem four_next (n i : Nat) (h : i < 4) : (fourL n).take (i + 1) = (fourL n).take i ++ [UInt8.ofNat (n / 256 ^ (3 - i) % 256)] := by
  rcases (by omega : i = 0 ∨ i = 1 ∨ i = 2 ∨ i = 3) with rfl | rfl | rfl | rfl
  · rfl
  · rfl
  · rfl
  · simp [fourL]
theorem byte_val (n k c : Nat) (hc : 256 ^ k = c) : ((n : Int) / (c : Int)) % 256 = ((UInt8.ofNat (n / 256 ^ k % 256)).toNat : Int) := by
  rw [hc, UInt8.toNat_ofNat']
  omega
set_option maxHeartbeats 800000 in
set_option maxRecDepth 100000 in
theorem appnum_any (B n : Nat) (v : Value) (L : List UInt8) (w : World) (hown : w.ownsRow B 5 1 v L.length (u8s L)) (hB : B ≤ w.heap.size) (hn : n < 4294967296) (hL : L.length ≤ 1000000000) :
    Calls Tryd.prog 41 #[v, .int .i64 (n : Int)] w fun e w' => ∃ v', e = .returned v' ∧ Grew B w w' v' (L ++ fourL n) := by
  obtain ⟨i0, hi0, hz0, hz1, hz2⟩ := info_parts infoB
  have HG0 : Hid (Grew B w w v (L ++ (fourL n).take 0)) := hideIt (by simpa using (⟨hown, Below.refl _ _, fun _ _ _ _ _ h => h⟩ : Grew B w w v L))
  have HNX := hideIt (four_next n)
  have HEND : Hid ((fourL n).take 4 = fourL n) := hideIt rfl
  have nI : (n : Int) < 4294967296 := by omega
  clear hown
  go_enter Tryd.func41, Tryd.ntmps41
  go_wp2
  go_loopw [0, 6] (fun t0 t6 wr => ∃ i : Nat, i ≤ 4 ∧ t6 = .int .i64 (i : Int) ∧ Grew B w wr t0 (L ++ (fourL n).take i)) (fun _ t6 _ => 4 - (intOf t6).toNat)
  case atStart => exact ⟨0, by omega, rfl, HG0.out⟩
  case round =>
    obtain ⟨i, hi, rfl, hg⟩ := hrel
    by_cases hlt : i < 4
    · have i1 : (i : Int) < 4 := by omega
      have i2 : decide ((i : Int) < 4) = true := decide_eq_true i1
      have hlM : (L ++ (fourL n).take i).length ≤ 1000000004 := by rw [List.length_append, List.length_take]; omega
      have hNX := HNX.out i hlt
      generalize hM : L ++ (fourL n).take i = M at hg hlM
      have HG := hideIt hg
      have hB' : B ≤ wr.heap.size := Nat.le_trans hB hg.below.size
      clear hg
      rcases (by omega : i = 0 ∨ i = 1 ∨ i = 2 ∨ i = 3) with rfl | rfl | rfl | rfl
      · have hy := byte_val n 3 16777216 (by decide)
        have hNX : (fourL n).take 1 = (fourL n).take 0 ++ [UInt8.ofNat (n / 256 ^ 3 % 256)] := hNX
        generalize UInt8.ofNat (n / 256 ^ 3 % 256) = y at hy hNX
        have HNY := hideIt hNX
        clear hNX
        go_wp2_with (first | (at_builtin; refine wpList_append_own _ rfl (.tmp 9) (.tmp 16) 60 rfl B 5 i0 (.int .u8 0) 1 1 Tryd.underlying60 hi0 hz0 hz1 hz2 rfl (by decide) _ M.length (u8s M) rfl (HG.out.own.alloc _) ⟨wr.heap.size, 0, none⟩ 1 1 (u8s [y]) rfl rfl (one_cellN y _ (by first | (rw [← hy]; rfl) | (congr 1; omega))) (u8s_one _) (by unfold maxLen; omega) (by omega) (by simp; omega) ?_; intro v1 w1 hown1 hg1 _; have G1 := hideIt (Grew.of (M := [y]) HG.out.own hB' ((Below.refl wr.heap.size wr).alloc (Nat.le_refl _) _) rfl hown1 hg1); clear hown1 hg1))
        go_roundw
        case rel => exact ⟨1, by omega, by go_num, by rw [HNY.out, ← List.append_assoc, hM]; exact HG.out.trans G1.out⟩
        case measure => simp [intOf]
      · have hy := byte_val n 2 65536 (by decide)
        have hNX : (fourL n).take 2 = (fourL n).take 1 ++ [UInt8.ofNat (n / 256 ^ 2 % 256)] := hNX
        generalize UInt8.ofNat (n / 256 ^ 2 % 256) = y at hy hNX
        have HNY := hideIt hNX
        clear hNX
        go_wp2_with (first | (at_builtin; refine wpList_append_own _ rfl (.tmp 9) (.tmp 16) 60 rfl B 5 i0 (.int .u8 0) 1 1 Tryd.underlying60 hi0 hz0 hz1 hz2 rfl (by decide) _ M.length (u8s M) rfl (HG.out.own.alloc _) ⟨wr.heap.size, 0, none⟩ 1 1 (u8s [y]) rfl rfl (one_cellN y _ (by first | (rw [← hy]; rfl) | (congr 1; omega))) (u8s_one _) (by unfold maxLen; omega) (by omega) (by simp; omega) ?_; intro v1 w1 hown1 hg1 _; have G1 := hideIt (Grew.of (M := [y]) HG.out.own hB' ((Below.refl wr.heap.size wr).alloc (Nat.le_refl _) _) rfl hown1 hg1); clear hown1 hg1))
        go_roundw
        case rel => exact ⟨2, by omega, by go_num, by rw [HNY.out, ← List.append_assoc, hM]; exact HG.out.trans G1.out⟩
        case measure => simp [intOf]
      · have hy := byte_val n 1 256 (by decide)
        have hNX : (fourL n).take 3 = (fourL n).take 2 ++ [UInt8.ofNat (n / 256 ^ 1 % 256)] := hNX
        generalize UInt8.ofNat (n / 256 ^ 1 % 256) = y at hy hNX
        have HNY := hideIt hNX
        clear hNX
        go_wp2_with (first | (at_builtin; refine wpList_append_own _ rfl (.tmp 9) (.tmp 16) 60 rfl B 5 i0 (.int .u8 0) 1 1 Tryd.underlying60 hi0 hz0 hz1 hz2 rfl (by decide) _ M.length (u8s M) rfl (HG.out.own.alloc _) ⟨wr.heap.size, 0, none⟩ 1 1 (u8s [y]) rfl rfl (one_cellN y _ (by first | (rw [← hy]; rfl) | (congr 1; omega))) (u8s_one _) (by unfold maxLen; omega) (by omega) (by simp; omega) ?_; intro v1 w1 hown1 hg1 _; have G1 := hideIt (Grew.of (M := [y]) HG.out.own hB' ((Below.refl wr.heap.size wr).alloc (Nat.le_refl _) _) rfl hown1 hg1); clear hown1 hg1))
        go_roundw
        case rel => exact ⟨3, by omega, by go_num, by rw [HNY.out, ← List.append_assoc, hM]; exact HG.out.trans G1.out⟩
        case measure => simp [intOf]
      · have hy := byte_val n 0 1 (by decide)
        have hNX : (fourL n).take 4 = (fourL n).take 3 ++ [UInt8.ofNat (n / 256 ^ 0 % 256)] := hNX
        generalize UInt8.ofNat (n / 256 ^ 0 % 256) = y at hy hNX
        have HNY := hideIt hNX
        clear hNX
        go_wp2_with (first | (at_builtin; refine wpList_append_own _ rfl (.tmp 9) (.tmp 16) 60 rfl B 5 i0 (.int .u8 0) 1 1 Tryd.underlying60 hi0 hz0 hz1 hz2 rfl (by decide) _ M.length (u8s M) rfl (HG.out.own.alloc _) ⟨wr.heap.size, 0, none⟩ 1 1 (u8s [y]) rfl rfl (one_cellN y _ (by first | (rw [← hy]; rfl) | (congr 1; omega))) (u8s_one _) (by unfold maxLen; omega) (by omega) (by simp; omega) ?_; intro v1 w1 hown1 hg1 _; have G1 := hideIt (Grew.of (M := [y]) HG.out.own hB' ((Below.refl wr.heap.size wr).alloc (Nat.le_refl _) _) rfl hown1 hg1); clear hown1 hg1))
        go_roundw
        case rel => exact ⟨4, by omega, by go_num, by rw [HNY.out, ← List.append_assoc, hM]; exact HG.out.trans G1.out⟩
        case measure => simp [intOf]
    · have i2 : decide ((i : Int) < 4) = false := decide_eq_false (by omega)
      obtain rfl : i = 4 := by omega
      rw [HEND.out] at hg
      have HG := hideIt hg
      clear hg
      go_wp2
      go_ret
      exact ⟨_, rfl, HG.out⟩
theorem or_low (a b : Nat) (ha : a < 4294967296) (hb : b < 256) : bits .or .i64 ((a : Int) * 256) (b : Int) = ((a * 256 + b : Nat) : Int) := by
  have e : ((a : Int) * 256) = ((a * 256 : Nat) : Int) := by omega
  have h1 : a * 256 ||| b = a * 256 + b := by
    have := Nat.two_pow_add_eq_or_of_lt (i := 8) hb a
    rw [Nat.mul_comm a 256]
    exact this.symm
  rw [e]
  show IntKind.i64.wrap ((BitVec.ofInt 64 ((a * 256 : Nat) : Int) ||| BitVec.ofInt 64 (b : Int)).toNat : Int) = _
  rw [BitVec.toNat_or, ofInt_u64 (a * 256) (by omega), ofInt_u64 b (by omega), h1, IntKind.wrap_i64]
  omega
set_option maxHeartbeats 800000 in
set_option maxRecDepth 100000 in
theorem readnum_any (L : List UInt8) (w : World) (hL : L.length ≤ 4) :
    Calls Tryd.prog 46 #[.string (bs L)] w fun e w' => e = .returned (.int .i64 (numR L : Int)) ∧ w' = w := by
  have hs : (bs L).size = L.length := bs_size L
  have HLE := hideIt (fun i => numR_le (L.take i) (by simp; omega))
  have HSN := hideIt (fun i (h : i < L.length) => by rw [List.take_succ_eq_append_getElem h, numR_snoc] : ∀ i (h : i < L.length), numR (L.take (i + 1)) = numR (L.take i) * 256 + L[i].toNat)
  have HEN : Hid (L.take L.length = L) := hideIt (List.take_length)
  have HAT : Hid (∀ S, bs L = S → ∀ i (h : i < L.length) (h2 : i < S.size), S[i]'h2 = L[i]) := hideIt (fun S hS i h h2 => by subst hS; rfl)
  obtain ⟨S, hS⟩ : ∃ S, bs L = S := ⟨_, rfl⟩
  have HA2 := hideIt (HAT.out S hS)
  rw [hS] at hs ⊢
  clear HAT hS
  obtain ⟨n, hn⟩ : ∃ n, L.length = n := ⟨_, rfl⟩
  rw [hn] at hs hL HEN
  have HN := hideIt hn
  clear hn
  go_enter Tryd.func46, Tryd.ntmps46
  go_wp2
  go_loopw [3, 7] (fun t3 t7 wr => ∃ i : Nat, i ≤ n ∧ t7 = .int .i64 (i : Int) ∧ t3 = .int .i64 (numR (L.take i) : Int) ∧ wr = w) (fun _ t7 _ => n - (intOf t7).toNat)
  case atStart => exact ⟨0, by omega, rfl, rfl, rfl⟩
  case round =>
    obtain ⟨i, hi, rfl, rfl, rfl⟩ := hrel
    by_cases hlt : i < n
    · have i0 : i < S.size := by omega
      have i1 : (i : Int) < (S.size : Int) := by omega
      have i2 : decide ((i : Int) < (S.size : Int)) = true := decide_eq_true i1
      have hLi : i < L.length := by rw [HN.out]; exact hlt
      have hle := HLE.out i
      have hsn := HSN.out i hLi
      have hat := HA2.out i hLi i0
      rw [← hat] at hsn
      obtain ⟨y, hy⟩ : ∃ y, S[i]'i0 = y := ⟨_, rfl⟩
      have hu8 := y.toNat_lt
      rw [hy] at hsn
      have HSN2 := hideIt hsn
      clear hsn hat
      generalize numR (L.take i) = a at HSN2 hle
      have HOR := hideIt (or_low a y.toNat hle (by omega))
      have a1 : (a : Int) < 4294967296 := by omega
      have y1 : (y.toNat : Int) < 256 := by omega
      go_wp2
      go_roundw
      case rel => exact ⟨i + 1, by omega, by go_num, by rw [HSN2.out, ← HOR.out], trivial⟩
      case measure => simp [intOf]; omega
    · have i2 : decide ((i : Int) < (S.size : Int)) = false := decide_eq_false (by omega)
      obtain rfl : i = n := by omega
      rw [HEN.out]
      obtain ⟨a, ha⟩ : ∃ a, numR L = a := ⟨_, rfl⟩
      have HAA := hideIt ha
      rw [ha]
      clear ha
      go_wp2
      go_ret
      exact ⟨by rw [HAA.out]; rfl, rfl⟩
end Go.Proofs.YtllpfpbpdgpnkaaDoor.Ix
