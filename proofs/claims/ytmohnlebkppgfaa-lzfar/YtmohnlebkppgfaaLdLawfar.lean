/- The law of what stood far back, walked. -/
import Derived.Test.YtmohnlebkppgfaaLdRep
import Derived.Test.YtmohnlebkppgfaaLdLawo
import Derived.Lib.SlBytesConst
namespace Go.Proofs.Ytmohnlebkppgfaa.Ld
open Cb
open Go.RowKit
set_option maxHeartbeats 400000 in
theorem clos_far (k : Nat) (w : World) (hk : k ≤ 100000000) : Calls Try.prog 15 #[.int .i64 (k : Int)] w fun e w' => e = .returned (.string (bs (Cd.numL k))) ∧ Below w.heap.size w w' := by
  have HN := hideIt (fun w => refnum_any k w (by omega))
  obtain ⟨x, hx⟩ : ∃ x, bs (Cd.numL k) = x := ⟨_, rfl⟩
  rw [hx] at HN ⊢
  have kI : (k : Int) ≤ 100000000 := by omega
  clear hx
  go_enter Try.func15, Try.ntmps15
  go_wp2_with (first | (go_at_call 13; refine (HN.out _).mono ?_; rintro e w1 ⟨rfl, hb1⟩))
  go_ret
  exact ⟨rfl, hb1⟩
def keyA (i : Nat) : List UInt8 := [107, 101, 121, 33] ++ List.replicate i 97
theorem keyA_next (i : Nat) : keyA i ++ [97] = keyA (i + 1) := by
  rw [keyA, keyA, List.append_assoc, ← List.replicate_succ']
theorem keyA_len (i : Nat) : (keyA i).length = i + 4 := by simp [keyA]
/-- The first byte that is appended to the constant's row: there is no room for it. -/
theorem run_append_first (w : World) (N : Nat) (fz : Nat × Nat) (ty : TypeId) (hN : N ≤ w.heap.size) (hg : w.heap[N]? = some (.cells (rowA [107, 101, 121, 33]) 5 fz)) (ad : Addr) (hx : ∀ j u, (u8s [97])[j]? = some u → w.cell? (ad.add j) = some u) :
    ∃ v' w', (Builtin.append_ #[33, 33] ty #[.slice (some ⟨N, 0, none⟩) 4 4, .slice (some ad) 1 1]).run Try.prog w = .ok v' w' ∧ w'.ownsRow N 5 1 v' 5 (u8s (keyA 0) ++ u8s [97]) ∧ w.grownBy w' (some N) := by
  obtain ⟨i, hi, hz, hs, hb⟩ := info_parts infoB
  have hl : (u8s (keyA 0)).length = 4 * i.size := by rw [hs]; rfl
  have holds : ∀ j u, (u8s (keyA 0))[j]? = some u → w.cell? ((⟨N, 0, none⟩ : Addr).add j) = some u := by
    intro j u hu
    rw [Addr.add_lit, Nat.zero_add, cell_of_row _ _ j _ _ _ hg, show rowA [107, 101, 121, 33] = (u8s (keyA 0)).toArray from rfl, List.getElem?_toArray]
    exact hu
  have hr := run_append_grow (P := Try.prog) w 33 ty 5 i (.int .u8 0) Try.underlying33 hi hz ⟨N, 0, none⟩ 4 4 (u8s (keyA 0)) hl holds ad 1 1 (u8s [97]) (by rw [hs]; rfl) hx (by omega) (by decide) (growslice_fits (by omega) (by rw [hb]; omega))
  have hge := grownCap_ge w (4 + 1) 4 5
  have hle := grownCap_le_maxLen w (4 + 1) 4 5 (by unfold maxLen; omega)
  refine ⟨_, _, hr, ⟨rfl, Or.inr ⟨w.heap.size, _, _, rfl, hN, heap_alloc_new w.drew _, hge, hle, ?_, ?_⟩⟩, ⟨rfl, rfl, rfl, by simp, fun k hk _ => Below.heap_alloc w.drew _ k hk⟩⟩
  · have hz1 : (Value.int IntKind.u8 0).cells.size = 1 := rfl
    simp only [Array.size_append, List.size_toArray, size_zeroCells, hz1]
    have e1 : (u8s (keyA 0)).length = 4 := rfl
    have e2 : (u8s [97]).length = 1 := rfl
    rw [e1, e2]
    omega
  · simp only [Array.toList_append, List.append_assoc]
    rfl
theorem wpList_append_first {w : World} {ops : Array Oper} {rest : List Oper} {o : Oper} {a : Act} {Q : Exit → Act → World → Prop} (hgd : o.guard = none) (s x : Operand)
    (ho : o.op = .call { callee := .builtin .append, args := #[s, x], argTypes := #[33, 33] }) (N : Nat) (fz : Nat × Nat) (hN : N ≤ w.heap.size) (hg : w.heap[N]? = some (.cells (rowA [107, 101, 121, 33]) 5 fz))
    (hs : a.eval s = .slice (some ⟨N, 0, none⟩) 4 4) (ad : Addr) (hx : a.eval x = .slice (some ad) 1 1) (hc : ∀ j u, (u8s [97])[j]? = some u → w.cell? (ad.add j) = some u)
    (h : ∀ v' w', w'.ownsRow N 5 1 v' 5 (u8s (keyA 0) ++ u8s [97]) → w.grownBy w' (some N) → wpList Try.prog ops Q rest (a.put o.dst v') w') : wpList Try.prog ops Q (o :: rest) a w := by
  refine wpList_plain hgd fun K hK => ?_
  obtain ⟨v', w', hr, h2, h3⟩ := run_append_first w N fz o.type hN hg ad hc
  unfold Oper.wp execOp
  simp only [ho, resolve, invoke, builtin, Sem.run_bind, Sem.run_pure, Result.andThen_ok, List.map_toArray, List.map_cons, List.map_nil, hs, hx, hr]
  exact hK _ _ (h v' w' h2 h3)
structure KMem (N i : Nat) (v : Value) (w0 w : World) : Prop where
  below : Below N w0 w
  size : N ≤ w.heap.size
  own : (i = 0 ∧ v = .slice (some ⟨N, 0, none⟩) 4 4 ∧ w.heap[N]? = some (.cells (rowA [107, 101, 121, 33]) 5 (4, 5))) ∨ (0 < i ∧ w.ownsRow N 5 1 v (keyA i).length (u8s (keyA i)))
theorem KMem.next {N i : Nat} {v v' : Value} {w0 w w2 : World} {o : Obj} (hb : Below N w0 w) (hs : N ≤ w.heap.size) (ho : w.ownsRow N 5 1 v (keyA i).length (u8s (keyA i))) (h2 : w2.ownsRow N 5 1 v' ((keyA i).length + 1) (u8s (keyA i) ++ u8s [97])) (hg : (w.alloc o).grownBy w2 v.ownBlock) : KMem N (i + 1) v' w0 w2 := by
  have G := Grew.of ho hs ((Below.refl w.heap.size w).alloc (Nat.le_refl _) o) (by rfl) h2 hg
  rw [keyA_next] at G
  exact ⟨hb.trans G.below, Nat.le_trans hs G.below.size, Or.inr ⟨by omega, G.own⟩⟩
theorem KMem.first {N : Nat} {v' : Value} {w0 w w2 : World} {o : Obj} (hb : Below N w0 w) (hs : N ≤ w.heap.size) (h2 : w2.ownsRow N 5 1 v' 5 (u8s (keyA 0) ++ u8s [97])) (hg : (w.alloc o).grownBy w2 (some N)) : KMem N 1 v' w0 w2 := by
  have hb2 := (hb.alloc hs o).grown hg (by simp; omega) (by intro k hk; simp at hk; omega)
  refine ⟨hb2, ?_, Or.inr ⟨by omega, ?_⟩⟩
  · have := hg.size
    simp at this
    omega
  · rw [← u8s_append, keyA_next] at h2
    exact h2
theorem KMem.start {N : Nat} {w : World} (hN : w.heap.size = N) : KMem N 0 (.slice (some ⟨N, 0, none⟩) 4 4) w (w.alloc (.cells #[.int .u8 107, .int .u8 101, .int .u8 121, .int .u8 33] 5 (4, 5))) :=
  ⟨(Below.refl _ _).alloc (by omega) _, by simp; omega, Or.inl ⟨rfl, rfl, alloc_at hN⟩⟩
set_option maxHeartbeats 1600000 in
set_option maxRecDepth 100000 in
theorem far_law (gap : Int) (w : World) :
    Calls Try.prog 6 #[.int .i64 gap] w fun e w' => e = .returned (.bool true) ∧ Below w.heap.size w w' := by
  obtain ⟨i0, hi0, hz0, hz1, hz2⟩ := info_parts infoB
  obtain ⟨j, hj, hj8⟩ : ∃ j : Nat, gap % 8 = (j : Int) ∧ j < 8 := ⟨(gap % 8).toNat, by omega, by omega⟩
  have b1 := i64_and7 gap
  rw [hj] at b1
  obtain ⟨n, hn⟩ : ∃ n, 32760 + j = n := ⟨_, rfl⟩
  have n1 : 32760 + (j : Int) = (n : Int) := by omega
  have nI : (n : Int) ≤ 32767 := by omega
  have jI : (j : Int) < 8 := by omega
  have HNN := hideIt (And.intro hn hj8)
  obtain ⟨N, hN⟩ : ∃ N, w.heap.size = N := ⟨_, rfl⟩
  have HK := hideIt (KMem.start hN)
  have HA := hideIt awake_any
  have hcc := Lib.run_convert_bytes_const (P := Try.prog) w 33 5 #[.int .u8 107, .int .u8 101, .int .u8 121, .int .u8 33] 4 4 Try.underlying33 Try.underlying5
  rw [hN] at hcc
  simp only [List.size_toArray, List.length_cons, List.length_nil, Nat.zero_add, Nat.reduceAdd] at hcc
  rw [hN]
  have nU : n ≤ 32767 := by omega
  clear hj hn hj8
  go_enter Try.func6, Try.ntmps6
  go_wp2
  go_loopw [4, 5] (fun v t wr => ∃ i : Nat, i ≤ n ∧ t = .int .i64 i ∧ KMem N i v w wr) (fun _ t _ => n - (intOf t).toNat)
  case atStart => exact ⟨0, by omega, rfl, HK.out⟩
  case round =>
    obtain ⟨i, hi, rfl, hr⟩ := hrel
    clear HK
    by_cases hlt : i < n
    · have hid : decide ((i : Int) < (n : Int)) = true := by simp; omega
      have HB := hideIt hr.below
      have HZ := hideIt hr.size
      rcases hr.own with ⟨rfl, hv, hrow⟩ | ⟨hi0', own⟩
      · subst hv
        have HRW : Hid (∀ o, (wr.alloc o).heap[N]? = some (.cells (rowA [107, 101, 121, 33]) 5 (4, 5))) := hideIt (fun o => by rw [Below.heap_alloc _ _ _ (Array.getElem?_eq_some_iff.1 hrow).1]; exact hrow)
        clear hr hrow
        go_wp2_with (first | (at_builtin; refine wpList_append_first rfl (.tmp 23) (.tmp 24) rfl N (4, 5) (by have := HZ.out; simp; omega) (HRW.out _) rfl ⟨wr.heap.size, 0, none⟩ rfl (one_cellN 97 _ rfl) ?_; intro v' w2 hown2 hg2))
        have R := KMem.first HB.out HZ.out hown2 hg2
        clear hown2 hg2
        go_wp2
        go_roundw
        case rel => exact ⟨1, by omega, by go_num, R⟩
        case measure => simp [intOf]; omega
      · have hkl := keyA_len i
        clear hr
        go_wp2_with (first | (at_builtin; refine wpList_append_own _ rfl (.tmp 23) (.tmp 24) 33 rfl N 5 i0 (.int .u8 0) 1 1 Try.underlying33 hi0 hz0 hz1 hz2 rfl (by decide) _ (keyA i).length (u8s (keyA i)) rfl (own.alloc _) ⟨wr.heap.size, 0, none⟩ 1 1 (u8s [97]) rfl rfl (one_cellN 97 _ rfl) (u8s_one _) (by unfold maxLen; omega) (by omega) (by have := HZ.out; simp; omega) ?_; intro v' w2 hown2 hg2 hs2))
        have R := KMem.next HB.out HZ.out own hown2 hg2
        clear hown2 hg2 hs2 own
        go_wp2
        go_roundw
        case rel => exact ⟨i + 1, by omega, by go_num, R⟩
        case measure => simp [intOf]; omega
    · have hid : decide ((i : Int) < (n : Int)) = false := by simp; omega
      obtain rfl : i = n := by omega
      have hio : wr.ownsRow N 5 1 u4 (keyA i).length (u8s (keyA i)) := by
        rcases hr.own with ⟨e, _⟩ | ⟨_, h⟩
        · have := HNN.out.1; omega
        · exact h
      have hcv := run_own hio
      clear hio
      obtain ⟨X, hX⟩ : ∃ X, bs (keyA i) = X := ⟨_, rfl⟩
      rw [hX] at hcv
      have HXD : Hid (X.data.toList = keyA i) := hideIt (by rw [← hX, bs_list])
      have xs : X.size = i + 4 := by rw [← hX, bs_size, keyA_len]
      obtain ⟨T, hT⟩ : ∃ T, X ++ ⟨#[107, 101, 121, 33]⟩ = T := ⟨_, rfl⟩
      obtain ⟨l8, hl8⟩ : ∃ l, i + 8 = l := ⟨_, rfl⟩
      obtain ⟨q5, hq5⟩ : ∃ q, i - 5 = q := ⟨_, rfl⟩
      obtain ⟨p4, hp4⟩ : ∃ p, i + 4 = p := ⟨_, rfl⟩
      have hi5 : 32760 ≤ i := by have := HNN.out.1; omega
      have tsN : T.size = l8 := by rw [← hT, ByteArray.size_append, xs, ← hl8]; rfl
      have ts : (T.size : Int) = (l8 : Int) := by rw [tsN]
      have q1 : (i : Int) - 5 = (q5 : Int) := by omega
      have p1 : (i : Int) + 4 = (p4 : Int) := by omega
      have HTD : Hid (T.data.toList = Lz.keys i) := hideIt (by rw [← hT, cat_data, HXD.out]; rfl)
      have t1 : ¬ 9223372036854775807 < X.size + 4 := by omega
      have HB := hideIt hr.below
      have HNL := hideIt (Nat.le_of_eq hN.symm)
      have HPR := hideIt (fun w => press_any T w (by omega))
      rw [HTD.out] at HPR
      obtain ⟨P, hP⟩ : ∃ P, bs (Lz.press (Lz.keys i)) = P := ⟨_, rfl⟩
      have HSP := hideIt (fun w => spread_again (Lz.keys i) P (l8 : Int) w hP (by rw [Lz.keys_len]; omega) (by rw [Lz.keys_len]; omega))
      have hTk : bs (Lz.keys i) = T := by rw [← HTD.out, bs_data]
      rw [hP] at HPR
      rw [hTk] at HSP
      have H1 := hideIt (fun w => clos_far l8 w (by omega))
      have H2 := hideIt (fun w => clos_far 5 w (by omega))
      have H3 := hideIt (fun w => clos_far 1 w (by omega))
      have H4 := hideIt (fun w => clos_far q5 w (by omega))
      have H5 := hideIt (fun w => clos_far 0 w (by omega))
      have H6 := hideIt (fun w => clos_far p4 w (by omega))
      have H7 := hideIt (fun w => clos_far 4 w (by omega))
      obtain ⟨A, hA⟩ : ∃ A, bs (Cd.numL l8) = A := ⟨_, rfl⟩
      obtain ⟨B, hB⟩ : ∃ A, bs (Cd.numL 5) = A := ⟨_, rfl⟩
      obtain ⟨C, hC⟩ : ∃ A, bs (Cd.numL 1) = A := ⟨_, rfl⟩
      obtain ⟨D, hD⟩ : ∃ A, bs (Cd.numL q5) = A := ⟨_, rfl⟩
      obtain ⟨Z, hZ⟩ : ∃ A, bs (Cd.numL 0) = A := ⟨_, rfl⟩
      obtain ⟨E, hE⟩ : ∃ A, bs (Cd.numL p4) = A := ⟨_, rfl⟩
      obtain ⟨F, hF⟩ : ∃ A, bs (Cd.numL 4) = A := ⟨_, rfl⟩
      have sA : A.size ≤ 4 := by rw [← hA, bs_size]; exact numL_small _ (by omega)
      have sB : B.size ≤ 4 := by rw [← hB, bs_size]; exact numL_small _ (by omega)
      have sC : C.size ≤ 4 := by rw [← hC, bs_size]; exact numL_small _ (by omega)
      have sD : D.size ≤ 4 := by rw [← hD, bs_size]; exact numL_small _ (by omega)
      have sZ : Z.size ≤ 4 := by rw [← hZ, bs_size]; exact numL_small _ (by omega)
      have sE : E.size ≤ 4 := by rw [← hE, bs_size]; exact numL_small _ (by omega)
      have sF : F.size ≤ 4 := by rw [← hF, bs_size]; exact numL_small _ (by omega)
      rw [hA] at H1
      rw [hB] at H2
      rw [hC] at H3
      rw [hD] at H4
      rw [hZ] at H5
      rw [hE] at H6
      rw [hF] at H7
      have t2 : ¬ 9223372036854775807 < A.size + B.size := by omega
      have t3 : ¬ 9223372036854775807 < A.size + B.size + 5 := by omega
      have t4 : ¬ 9223372036854775807 < A.size + B.size + 5 + C.size := by omega
      have t5 : ¬ 9223372036854775807 < A.size + B.size + 5 + C.size + D.size := by omega
      have q2 : (T.toList == T.toList) = true := by simp
      have hpk := Lz.press_keys i (by omega)
      rw [hl8, hp4, hq5] at hpk
      have HAB := hideIt (And.intro hl8 (And.intro hi5 hp4))
      have l8I : (l8 : Int) ≤ 40000 := by omega
      have p4I : (p4 : Int) ≤ 40000 := by omega
      by_cases hnear : p4 ≤ 32768
      · have n2 : (p4 : Int) ≤ 32768 := by omega
        have n3 : decide ((p4 : Int) ≤ 32768) = true := decide_eq_true n2
        rw [if_pos hnear] at hpk
        have t6 : ¬ 9223372036854775807 < Z.size + E.size := by omega
        have t7 : ¬ 9223372036854775807 < Z.size + E.size + Z.size := by omega
        have t8 : ¬ 9223372036854775807 < A.size + B.size + 5 + C.size + D.size + (Z.size + E.size + Z.size) := by omega
        have hPW : P = A ++ B ++ ⟨#[107, 101, 121, 33, 97]⟩ ++ C ++ D ++ (Z ++ E ++ Z) := by
          rw [← hP, ← bs_data (A ++ B ++ ⟨#[107, 101, 121, 33, 97]⟩ ++ C ++ D ++ (Z ++ E ++ Z)), hpk]
          simp only [cat_data, ← hA, ← hB, ← hC, ← hD, ← hZ, ← hE, bs_list]
        have q3 : (P.toList == (A ++ B ++ ⟨#[107, 101, 121, 33, 97]⟩ ++ C ++ D ++ (Z ++ E ++ Z)).toList) = true := by rw [← hPW]; simp
        clear hr hX xs hl8 hq5 hp4 hi5 tsN hP hTk hA hB hC hD hZ hE hF hpk hPW
        go_wp2_with (first | (go_at_call_of 15 (Value.int IntKind.i64 (l8 : Int)); refine (H1.out _).mono ?_; rintro e wn ⟨rfl, hbn⟩; have HBN := hideIt (below_step HB.out HNL.out hbn); clear HB hbn; have HB := HBN; clear HBN) | (go_at_call_of 15 (Value.int IntKind.i64 5); refine (H2.out _).mono ?_; rintro e wn ⟨rfl, hbn⟩; have HBN := hideIt (below_step HB.out HNL.out hbn); clear HB hbn; have HB := HBN; clear HBN) | (go_at_call_of 15 (Value.int IntKind.i64 1); refine (H3.out _).mono ?_; rintro e wn ⟨rfl, hbn⟩; have HBN := hideIt (below_step HB.out HNL.out hbn); clear HB hbn; have HB := HBN; clear HBN) | (go_at_call_of 15 (Value.int IntKind.i64 (q5 : Int)); refine (H4.out _).mono ?_; rintro e wn ⟨rfl, hbn⟩; have HBN := hideIt (below_step HB.out HNL.out hbn); clear HB hbn; have HB := HBN; clear HBN) | (go_at_call_of 15 (Value.int IntKind.i64 0); refine (H5.out _).mono ?_; rintro e wn ⟨rfl, hbn⟩; have HBN := hideIt (below_step HB.out HNL.out hbn); clear HB hbn; have HB := HBN; clear HBN) | (go_at_call_of 15 (Value.int IntKind.i64 (p4 : Int)); refine (H6.out _).mono ?_; rintro e wn ⟨rfl, hbn⟩; have HBN := hideIt (below_step HB.out HNL.out hbn); clear HB hbn; have HB := HBN; clear HBN) | (go_at_call_of 15 (Value.int IntKind.i64 4); refine (H7.out _).mono ?_; rintro e wn ⟨rfl, hbn⟩; have HBN := hideIt (below_step HB.out HNL.out hbn); clear HB hbn; have HB := HBN; clear HBN) | (go_at_call 7; refine (HPR.out _).mono ?_; rintro e wn ⟨rfl, hbn⟩; have HBN := hideIt (below_step HB.out HNL.out hbn); clear HB hbn; have HB := HBN; clear HBN) | (go_at_call 9; refine (HSP.out _).mono ?_; rintro e wn ⟨rfl, hbn⟩; have HBN := hideIt (below_step HB.out HNL.out hbn); clear HB hbn; have HB := HBN; clear HBN) | (go_at_call 10; refine (HA.out _).mono ?_; rintro e wn ⟨rfl, hbn⟩; have HBN := hideIt (below_step HB.out HNL.out hbn); clear HB hbn; have HB := HBN; clear HBN))
        go_ret
        exact ⟨rfl, HB.out⟩
      · have n2 : ¬ (p4 : Int) ≤ 32768 := by omega
        have n3 : decide ((p4 : Int) ≤ 32768) = false := decide_eq_false n2
        rw [if_neg hnear] at hpk
        have t6 : ¬ 9223372036854775807 < F.size + 4 := by omega
        have t8 : ¬ 9223372036854775807 < A.size + B.size + 5 + C.size + D.size + (F.size + 4) := by omega
        have hPW : P = A ++ B ++ ⟨#[107, 101, 121, 33, 97]⟩ ++ C ++ D ++ (F ++ ⟨#[107, 101, 121, 33]⟩) := by
          rw [← hP, ← bs_data (A ++ B ++ ⟨#[107, 101, 121, 33, 97]⟩ ++ C ++ D ++ (F ++ ⟨#[107, 101, 121, 33]⟩)), hpk]
          simp only [cat_data, ← hA, ← hB, ← hC, ← hD, ← hF, bs_list]
        have q3 : (P.toList == (A ++ B ++ ⟨#[107, 101, 121, 33, 97]⟩ ++ C ++ D ++ (F ++ ⟨#[107, 101, 121, 33]⟩)).toList) = true := by rw [← hPW]; simp
        clear hr hX xs hl8 hq5 hp4 hi5 tsN hP hTk hA hB hC hD hZ hE hF hpk hPW
        go_wp2_with (first | (go_at_call_of 15 (Value.int IntKind.i64 (l8 : Int)); refine (H1.out _).mono ?_; rintro e wn ⟨rfl, hbn⟩; have HBN := hideIt (below_step HB.out HNL.out hbn); clear HB hbn; have HB := HBN; clear HBN) | (go_at_call_of 15 (Value.int IntKind.i64 5); refine (H2.out _).mono ?_; rintro e wn ⟨rfl, hbn⟩; have HBN := hideIt (below_step HB.out HNL.out hbn); clear HB hbn; have HB := HBN; clear HBN) | (go_at_call_of 15 (Value.int IntKind.i64 1); refine (H3.out _).mono ?_; rintro e wn ⟨rfl, hbn⟩; have HBN := hideIt (below_step HB.out HNL.out hbn); clear HB hbn; have HB := HBN; clear HBN) | (go_at_call_of 15 (Value.int IntKind.i64 (q5 : Int)); refine (H4.out _).mono ?_; rintro e wn ⟨rfl, hbn⟩; have HBN := hideIt (below_step HB.out HNL.out hbn); clear HB hbn; have HB := HBN; clear HBN) | (go_at_call_of 15 (Value.int IntKind.i64 0); refine (H5.out _).mono ?_; rintro e wn ⟨rfl, hbn⟩; have HBN := hideIt (below_step HB.out HNL.out hbn); clear HB hbn; have HB := HBN; clear HBN) | (go_at_call_of 15 (Value.int IntKind.i64 (p4 : Int)); refine (H6.out _).mono ?_; rintro e wn ⟨rfl, hbn⟩; have HBN := hideIt (below_step HB.out HNL.out hbn); clear HB hbn; have HB := HBN; clear HBN) | (go_at_call_of 15 (Value.int IntKind.i64 4); refine (H7.out _).mono ?_; rintro e wn ⟨rfl, hbn⟩; have HBN := hideIt (below_step HB.out HNL.out hbn); clear HB hbn; have HB := HBN; clear HBN) | (go_at_call 7; refine (HPR.out _).mono ?_; rintro e wn ⟨rfl, hbn⟩; have HBN := hideIt (below_step HB.out HNL.out hbn); clear HB hbn; have HB := HBN; clear HBN) | (go_at_call 9; refine (HSP.out _).mono ?_; rintro e wn ⟨rfl, hbn⟩; have HBN := hideIt (below_step HB.out HNL.out hbn); clear HB hbn; have HB := HBN; clear HBN) | (go_at_call 10; refine (HA.out _).mono ?_; rintro e wn ⟨rfl, hbn⟩; have HBN := hideIt (below_step HB.out HNL.out hbn); clear HB hbn; have HB := HBN; clear HBN))
        go_ret
        exact ⟨rfl, HB.out⟩
end Go.Proofs.Ytmohnlebkppgfaa.Ld
