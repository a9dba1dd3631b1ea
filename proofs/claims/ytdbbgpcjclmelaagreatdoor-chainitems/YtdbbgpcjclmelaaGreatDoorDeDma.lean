/- Numbers and bytes appended to a row that is the call's own; how many bytes two texts begin with that are the same: walked. -/
import Derived.Test.YtdbbgpcjclmelaaGreatDoorDeDld
import Derived.Test.YtdbbgpcjclmelaaGreatDoorCbNumw
import Derived.Lib.AppendStr
namespace Go.Proofs.YtdbbgpcjclmelaaGreatDoor.De
open Cb
open Go.RowKit
theorem str_u8s (s : ByteArray) : Lib.strCells s = u8s s.data.toList := by
  simp [Lib.strCells, u8s]
theorem own_keep {B n : Nat} {v : Value} {xs : List Value} {w w' : World} (h : w.ownsRow B 5 1 v n xs) (hk : ∀ g, g < w.heap.size → w'.heap[g]? = w.heap[g]?) : w'.ownsRow B 5 1 v n xs := by
  refine ⟨h.1, ?_⟩
  rcases h.2 with h | ⟨g, cap, cur, e, hb, hh, r⟩
  · exact Or.inl h
  · exact Or.inr ⟨g, cap, cur, e, hb, by rw [hk g (Array.getElem?_eq_some_iff.1 hh).1]; exact hh, r⟩
/-- A row of bytes behind appending: the bytes, and what is of another type is as it was. -/
structure Grew (B : Nat) (w w' : World) (v' : Value) (L : List UInt8) : Prop where
  own : w'.ownsRow B 5 1 v' L.length (u8s L)
  below : Below B w w'
  keep : ∀ (g : Nat) (o : Obj), (∀ cs fr, o ≠ .cells cs 5 fr) → w.heap[g]? = some o → w'.heap[g]? = some o
theorem own_other {B n g : Nat} {w : World} {v : Value} {xs : List Value} {o : Obj} (hv : w.ownsRow B 5 1 v n xs) (hg : w.heap[g]? = some o) (ht : ∀ cs fr, o ≠ .cells cs 5 fr) : some g ≠ v.ownBlock := by
  intro e
  rcases hv.2 with ⟨rfl, _⟩ | ⟨g', cap, cur, rfl, _, hh, _⟩
  · simp [Value.ownBlock] at e
  · simp [Value.ownBlock] at e
    subst e
    rw [hg] at hh
    simp only [Option.some.injEq] at hh
    exact ht _ _ hh
theorem Grew.trans {B : Nat} {w w1 w2 : World} {v1 v2 : Value} {L L2 : List UInt8} (h : Grew B w w1 v1 L) (k : Grew B w1 w2 v2 L2) : Grew B w w2 v2 L2 :=
  ⟨k.own, h.below.trans k.below, fun g o ht hg => k.keep g o ht (h.keep g o ht hg)⟩
/-- Behind one append. -/
theorem Grew.of {B n : Nat} {w w1 w2 : World} {v v' : Value} {L M : List UInt8} (hown : w.ownsRow B 5 1 v L.length (u8s L)) (hB : B ≤ w.heap.size) (hb : Below w.heap.size w w1) (hn : n = L.length + M.length) (h2 : w2.ownsRow B 5 1 v' n (u8s L ++ u8s M)) (hg : w1.grownBy w2 v.ownBlock) : Grew B w w2 v' (L ++ M) := by
  refine ⟨?_, (hb.mono hB).grown hg (Nat.le_trans hB hb.size) (own_ge hown), fun g o ht hc => ?_⟩
  · rw [List.length_append, ← hn, u8s_append]; exact h2
  · have hs := (Array.getElem?_eq_some_iff.1 hc).1
    rw [hg.block g (Nat.lt_of_lt_of_le hs hb.size) (own_other hown hc ht), hb.block g hs]
    exact hc
set_option maxHeartbeats 400000 in
set_option maxRecDepth 100000 in
theorem appnum_any (B n : Nat) (v : Value) (L : List UInt8) (w : World) (hown : w.ownsRow B 5 1 v L.length (u8s L)) (hB : B ≤ w.heap.size) (hn : n ≤ 1000000000) (hL : L.length ≤ 1000000000) :
    Calls Tryz.prog 31 #[v, .int .i64 (n : Int)] w fun e w' => ∃ v', e = .returned v' ∧ Grew B w w' v' (L ++ Cd.numL n) := by
  obtain ⟨i0, hi0, hz0, hz1, hz2⟩ := info_parts infoB
  have HN := hideIt (num_any n w (by omega))
  obtain ⟨a, ha⟩ : ∃ a, bs (Cd.numL n) = a := ⟨_, rfl⟩
  rw [ha] at HN
  have al : a.data.toList = Cd.numL n := by rw [← ha, bs_list]
  have asz : a.size ≤ 10 := by
    rw [← ha, bs_size, Cd.numL, List.length_reverse, Cd.numR, List.length_cons]
    have := Cd.more_len 9 n (by omega)
    omega
  have ni : (n : Int) ≤ 1000000000 := by omega
  have HO := hideIt (fun (w1 : World) (hb : Below w.heap.size w w1) => own_keep hown hb.block)
  have HF : Hid (∀ (w1 w2 : World) (v' : Value), Below w.heap.size w w1 → w2.ownsRow B 5 1 v' (L.length + a.size) (u8s L ++ Lib.strCells a) → w1.grownBy w2 v.ownBlock → Grew B w w2 v' (L ++ Cd.numL n)) := by
    refine hideIt (fun w1 w2 v' hb h2 hg => ?_)
    rw [str_u8s, al] at h2
    exact Grew.of hown hB hb (by rw [← al, str_len]) h2 hg
  clear ha al hown
  go_enter Tryz.func31, Tryz.ntmps31
  go_wp2_with (first | (go_at_call 43; refine HN.out.mono ?_; rintro e w1 ⟨rfl, hb1⟩) | (at_builtin; refine Lib.wpList_append_own_string _ rfl (.tmp 5) (.tmp 8) 54 9 rfl B 5 i0 Tryz.underlying54 Tryz.underlying9 hi0 hz0 hz1 hz2 _ L.length (u8s L) rfl (HO.out _ hb1) a rfl (by unfold maxLen; omega) (by omega) (Nat.le_trans hB hb1.size) ?_; intro v' w2 hown2 hg2 hs2))
  go_ret
  exact ⟨v', rfl, HF.out _ _ _ hb1 hown2 hg2⟩
set_option maxHeartbeats 400000 in
set_option maxRecDepth 100000 in
theorem appput_any (B : Nat) (s : ByteArray) (v : Value) (L : List UInt8) (w : World) (hown : w.ownsRow B 5 1 v L.length (u8s L)) (hB : B ≤ w.heap.size) (hs : s.size ≤ 100000000) (hL : L.length ≤ 1000000000) :
    Calls Tryz.prog 34 #[v, .string s] w fun e w' => ∃ v', e = .returned v' ∧ Grew B w w' v' (L ++ Dl.putL s.data.toList) := by
  obtain ⟨i0, hi0, hz0, hz1, hz2⟩ := info_parts infoB
  by_cases h0 : s.size = 0
  · have e0 : s.data.toList = [] := List.eq_nil_of_length_eq_zero (by rw [str_len]; exact h0)
    have q1 : (s.toList == []) = true := by rw [ByteArray.toList_eq, e0]; rfl
    have q2 : s.toList = [] := by rw [ByteArray.toList_eq, e0]
    have HF : Hid (Grew B w w v (L ++ Dl.putL s.data.toList)) := by
      refine hideIt ?_
      rw [e0, Dl.putL, if_pos rfl, List.append_nil]
      exact ⟨hown, Below.refl _ _, fun g o _ hg => hg⟩
    clear e0 hown
    go_enter Tryz.func34, Tryz.ntmps34
    go_wp2
    go_ret
    exact ⟨v, rfl, HF.out⟩
  · have e0 : ¬ s.data.toList = [] := fun e => h0 (by rw [← str_len, e]; rfl)
    have q2 : ¬ s.toList = [] := by rw [ByteArray.toList_eq]; exact e0
    have q1 : (s.toList == []) = false := beq_eq_false_iff_ne.2 q2
    obtain ⟨m, hm⟩ : ∃ m, 2 * s.size - 2 = m := ⟨_, rfl⟩
    have HN := hideIt (appnum_any B m v L w hown hB (by omega) hL)
    obtain ⟨M, hM⟩ : ∃ M, L ++ Cd.numL m = M := ⟨_, rfl⟩
    have hML : M.length ≤ 1000000010 := by
      rw [← hM, List.length_append, Cd.numL, List.length_reverse, Cd.numR, List.length_cons]
      have := Cd.more_len 9 m (by omega)
      omega
    rw [hM] at HN
    have HX : Hid (L ++ Dl.putL s.data.toList = M ++ s.data.toList) := by
      refine hideIt ?_
      rw [Dl.putL, if_neg e0, str_len, hm, ← hM, List.append_assoc]
    obtain ⟨s1, hs1⟩ : ∃ s1, s.size - 1 = s1 := ⟨_, rfl⟩
    have si : (s.size : Int) ≤ 100000000 := by omega
    have s2 : (s.size : Int) - 1 = (s1 : Int) := by omega
    have s3 : 2 * (s1 : Int) = (m : Int) := by omega
    have s4 : (s1 : Int) ≤ 100000000 := by omega
    have HF : Hid (∀ (w1 w2 : World) (v1 v' : Value), Grew B w w1 v1 M → w2.ownsRow B 5 1 v' (M.length + s.size) (u8s M ++ Lib.strCells s) → w1.grownBy w2 v1.ownBlock → Grew B w w2 v' (M ++ s.data.toList)) := by
      refine hideIt (fun w1 w2 v1 v' hb h2 hg => ?_)
      rw [str_u8s] at h2
      exact hb.trans (Grew.of hb.own (Nat.le_trans hB hb.below.size) (Below.refl _ _) (by rw [str_len]) h2 hg)
    rw [HX.out]
    clear hown hM hm hs1 e0 h0
    go_enter Tryz.func34, Tryz.ntmps34
    go_wp2_with (first | (go_at_call 31; refine HN.out.mono ?_; rintro e w1 ⟨v1, rfl, hb1⟩) | (at_builtin; refine Lib.wpList_append_own_string _ rfl (.tmp 13) (.tmp 14) 54 9 rfl B 5 i0 Tryz.underlying54 Tryz.underlying9 hi0 hz0 hz1 hz2 _ M.length (u8s M) rfl hb1.own s rfl (by unfold maxLen; omega) (by omega) (Nat.le_trans hB hb1.below.size) ?_; intro v' w2 hown2 hg2 hs2))
    go_ret
    exact ⟨v', rfl, HF.out _ _ _ _ hb1 hown2 hg2⟩
set_option maxHeartbeats 400000 in
set_option maxRecDepth 100000 in
theorem apptaken_any (B k n : Nat) (v : Value) (L : List UInt8) (w : World) (hown : w.ownsRow B 5 1 v L.length (u8s L)) (hB : B ≤ w.heap.size) (hk : k ≤ 100000000) (hn0 : 1 ≤ n) (hn : n ≤ 100000000) (hL : L.length ≤ 900000000) :
    Calls Tryz.prog 35 #[v, .int .i64 (k : Int), .int .i64 (n : Int)] w fun e w' => ∃ v', e = .returned v' ∧ Grew B w w' v' (L ++ Cd.numL (2 * n - 1) ++ Cd.numL k) := by
  obtain ⟨m, hm⟩ : ∃ m, 2 * n - 1 = m := ⟨_, rfl⟩
  rw [hm]
  have HN := hideIt (appnum_any B m v L w hown hB (by omega) (by omega))
  obtain ⟨M, hM⟩ : ∃ M, L ++ Cd.numL m = M := ⟨_, rfl⟩
  have hML : M.length ≤ 900000010 := by
    rw [← hM, List.length_append, Cd.numL, List.length_reverse, Cd.numR, List.length_cons]
    have := Cd.more_len 9 m (by omega)
    omega
  rw [hM] at HN ⊢
  have HK : Hid (∀ (w1 : World) (v1 : Value), Grew B w w1 v1 M → Calls Tryz.prog 31 #[v1, .int .i64 (k : Int)] w1 fun e w' => ∃ v', e = .returned v' ∧ Grew B w w' v' (M ++ Cd.numL k)) := by
    refine hideIt (fun w1 v1 h1 => ?_)
    refine (appnum_any B k v1 M w1 h1.own (Nat.le_trans hB h1.below.size) (by omega) (by omega)).mono ?_
    rintro e w' ⟨v', rfl, h2⟩
    exact ⟨v', rfl, h1.trans h2⟩
  obtain ⟨n1, hn1⟩ : ∃ n1, n - 1 = n1 := ⟨_, rfl⟩
  obtain ⟨n2, hn2⟩ : ∃ n2, 2 * n1 = n2 := ⟨_, rfl⟩
  have s2 : (n : Int) - 1 = (n1 : Int) := by omega
  have s3 : 2 * (n1 : Int) = (n2 : Int) := by omega
  have s5 : (n2 : Int) + 1 = (m : Int) := by omega
  have s4 : (n2 : Int) ≤ 200000000 := by omega
  have s6 : (n : Int) ≤ 100000000 := by omega
  have s7 : (1 : Int) ≤ (n : Int) := by omega
  have s8 : (m : Int) ≤ 200000001 := by omega
  have s9 : (n1 : Int) ≤ 100000000 := by omega
  clear hm hM hn1 hn2 hown
  go_enter Tryz.func35, Tryz.ntmps35
  go_wp2_with (first | (go_at_call_of 31 (Value.int IntKind.i64 (m : Int)); refine HN.out.mono ?_; rintro e w1 ⟨v1, rfl, hb1⟩) | (go_at_call 31; refine (HK.out _ _ hb1).mono ?_; rintro e w2 ⟨v2, rfl, hb2⟩))
  go_ret
  exact ⟨v2, rfl, hb2⟩
theorem drop_byte (s : ByteArray) (a : Nat) (h : a < s.size) : s.data.toList.drop a = s[a] :: s.data.toList.drop (a + 1) := by
  have h2 : a < s.data.toList.length := by rw [str_len]; exact h
  rw [List.drop_eq_getElem_cons h2]
  rfl
theorem same_byte (s t : ByteArray) (i : Nat) (ha : i < s.size) (hb : i < t.size) : Dl.same (s.data.toList.drop i) (t.data.toList.drop i) = if s[i] = t[i] then Dl.same (s.data.toList.drop (i + 1)) (t.data.toList.drop (i + 1)) + 1 else 0 := by
  rw [drop_byte s i ha, drop_byte t i hb, Dl.same]
set_option maxHeartbeats 800000 in
set_option maxRecDepth 100000 in
theorem same9_any (s t : ByteArray) (w : World) (hs : s.size ≤ 100000000) (ht : t.size ≤ 100000000) :
    Calls Tryz.prog 33 #[.string s, .string t] w fun e w' => e = .returned (.int .i64 ((Dl.same s.data.toList t.data.toList : Nat) : Int)) ∧ Below w.heap.size w w' := by
  have si : (s.size : Int) ≤ 100000000 := by omega
  have ti : (t.size : Int) ≤ 100000000 := by omega
  obtain ⟨m, hm⟩ : ∃ m : Nat, min s.size t.size = m := ⟨_, rfl⟩
  have hml : m ≤ s.size ∧ m ≤ t.size ∧ (m = s.size ∨ m = t.size) := by omega
  have hmin : (if (t.size : Int) < (s.size : Int) then (t.size : Int) else (s.size : Int)) = (m : Int) := by split <;> omega
  have hmin2 : (if t.size < s.size then (t.size : Int) else (s.size : Int)) = (m : Int) := by split <;> omega
  have mi : (m : Int) ≤ 100000000 := by omega
  have HML := hideIt hml
  have HS : Hid (∀ i, i < s.size → i < t.size → True) := hideIt (fun _ _ _ => trivial)
  clear hm hml
  go_enter Tryz.func33, Tryz.ntmps33
  go_wp2
  go_loopw [6, 13] (fun _ x wr => ∃ i : Nat, i ≤ m ∧ x = .int .i64 i ∧ Dl.same s.data.toList t.data.toList = i + Dl.same (s.data.toList.drop i) (t.data.toList.drop i) ∧ Below w.heap.size w wr) (fun _ x _ => m - (intOf x).toNat)
  case atStart => exact ⟨0, by omega, rfl, by simp, Below.refl _ _⟩
  case round =>
    obtain ⟨i, hi, rfl, he, hr⟩ := hrel
    have HR := hideIt (fun q => hr.trans (c := wr.drewN q) ⟨rfl, rfl, rfl, Nat.le_refl _, fun _ _ => rfl⟩)
    by_cases hlt : i < m
    · have hid : decide ((i : Int) < (m : Int)) = true := by simp; omega
      have x3 : i < s.size := by have := HML.out; omega
      have y3 : i < t.size := by have := HML.out; omega
      have x2 : (i : Int) < (s.size : Int) := by omega
      have y2 : (i : Int) < (t.size : Int) := by omega
      have hsame := same_byte s t i x3 y3
      rw [hsame] at he
      by_cases hc : s[i] = t[i]
      · have HE := hideIt he
        rw [if_pos hc] at HE
        have hc1 : ((s[i]'x3).toNat : Int) = ((t[i]'y3).toNat : Int) := by rw [hc]
        clear he hsame hr hc
        go_wp2
        go_quiet (fail)
        go_wp2
        go_roundw
        case rel => exact ⟨i + 1, by omega, by go_num, by rw [HE.out]; omega, HR.out _⟩
        case measure => simp [intOf]; omega
      · have HE := hideIt he
        rw [if_neg hc] at HE
        obtain ⟨u, hu⟩ : ∃ u, (s[i]'x3).toNat = u := ⟨_, rfl⟩
        obtain ⟨v, hv⟩ : ∃ v, (t[i]'y3).toNat = v := ⟨_, rfl⟩
        have hne : ¬ u = v := by
          intro e
          apply hc
          rw [← hu, ← hv] at e
          exact UInt8.toNat_inj.1 e
        have u1 : ((s[i]'x3).toNat : Int) = (u : Int) := by rw [hu]
        have v1 : ((t[i]'y3).toNat : Int) = (v : Int) := by rw [hv]
        have hne1 : ¬ (u : Int) = (v : Int) := by omega
        have hne2 : decide ((u : Int) = (v : Int)) = false := decide_eq_false hne1
        have hne3 : ((u : Int) == (v : Int)) = false := beq_eq_false_iff_ne.2 hne1
        clear he hsame hr hc hu hv
        go_wp2
        go_quiet (fail)
        go_wp2
        go_ret
        exact ⟨by rw [HE.out]; rfl, HR.out _⟩
    · have hid : decide ((i : Int) < (m : Int)) = false := by simp; omega
      have HE : Hid (Dl.same s.data.toList t.data.toList = m) := by
        refine hideIt ?_
        have := HML.out
        rw [he]
        rcases this.2.2 with h | h
        · rw [List.drop_of_length_le (l := s.data.toList) (by rw [str_len]; omega)]
          simp [Dl.same]; omega
        · rw [List.drop_of_length_le (l := t.data.toList) (by rw [str_len]; omega)]
          cases s.data.toList.drop i <;> simp [Dl.same] <;> omega
      have HR0 := hideIt hr
      clear he hr
      go_wp2
      go_ret
      exact ⟨by rw [HE.out]; rfl, HR0.out⟩
end Go.Proofs.YtdbbgpcjclmelaaGreatDoor.De
