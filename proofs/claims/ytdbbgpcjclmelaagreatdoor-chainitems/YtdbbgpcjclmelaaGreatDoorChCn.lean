/- Chains: the solver, made: walked. -/
import Derived.Test.YtdbbgpcjclmelaaGreatDoorChCna
import Derived.Test.YtdbbgpcjclmelaaGreatDoorChCnb
import Derived.Deep.AppendLies
import Derived.Deep.RegionHeld3
import Derived.Laws.MakeOwn
import Derived.BigQuiet
import Derived.Deep.CutRange
namespace Go.Proofs.YtdbbgpcjclmelaaGreatDoor.Ch
open Cb Go.RowKit Go.Shelf Go.Maps
theorem infoSp : (Tryz.prog.info? 72).map (fun i => (i.zero, i.size, i.bytes)) = some (some (.agg #[.string ⟨#[]⟩, .int .i64 0]), 2, 24) := by kernel_rfl
def mk5 (f : Fin 5 → Bool) : Array Bool := #[true, true, true, f 0, true, true, f 1, true, true, f 2, f 3, f 4, false, false, false]
def I5 : Fin 5 → Nat
  | 0 => 3
  | 1 => 6
  | 2 => 9
  | 3 => 10
  | 4 => 11
def O5 (n : Nat) : Fin 5 → Obj
  | 0 => .cells (madeCells #[.string ⟨#[]⟩] n) 9
  | 1 => .cells (madeCells #[.string ⟨#[]⟩, .int .i64 0] (n * 2)) 72
  | 2 => .cells (madeCells #[.int .i64 0] n) 3
  | 3 => .map #[] 0
  | 4 => .map #[] 0
def V5 (n : Nat) : Fin 5 → Nat → Value
  | 0, b => .slice (some ⟨b, 0, none⟩) n n
  | 1, b => .slice (some ⟨b, 0, none⟩) n n
  | 2, b => .slice (some ⟨b, 0, none⟩) n n
  | 3, b => .map (some b)
  | 4, b => .map (some b)
def A5 (v : Value) (n : Nat) (g : Fin 5 → Value) : Act := { tmps := #[v, undef, .pointer none, undef, undef, undef, v, v, .int .i64 (n : Int), g 0, v, .int .i64 (n : Int), g 1, v, .int .i64 (n : Int), g 2, g 3, g 4, undef, undef, undef, undef, undef, undef, undef, undef, undef, undef, undef, undef, undef, undef, undef, undef, undef, undef, undef, undef, undef, undef, undef, undef, undef, undef, undef], defers := [] }
theorem ready5 {ops : Array Oper} (h : ∀ k0 k1 k2 k3 k4 : Bool, Region.ready .any ops #[true, true, true, k0, true, true, k1, true, true, k2, k3, k4, false, false, false] = (if k0 then [] else [3]) ++ (if k1 then [] else [6]) ++ (if k2 then [] else [9]) ++ (if k3 then [] else [10]) ++ (if k4 then [] else [11]) ++ (if k0 && k1 && k2 && k3 && k4 then [12] else [])) :
    ∀ f, (∃ j, f j = false) → Region.ready .any ops (mk5 f) ≠ [] ∧ ∀ i ∈ Region.ready .any ops (mk5 f), ∃ j, i = I5 j ∧ f j = false := by
  intro f hf
  have hf' : f 0 = false ∨ f 1 = false ∨ f 2 = false ∨ f 3 = false ∨ f 4 = false := by
    obtain ⟨j, hj⟩ := hf
    match j with
    | 0 => exact .inl hj
    | 1 => exact .inr (.inl hj)
    | 2 => exact .inr (.inr (.inl hj))
    | 3 => exact .inr (.inr (.inr (.inl hj)))
    | 4 => exact .inr (.inr (.inr (.inr hj)))
  unfold mk5
  rw [h]
  constructor
  · rcases hf' with e | e | e | e | e <;> simp [e]
  · intro i hi
    simp only [List.mem_append] at hi
    rcases hi with ((((hi | hi) | hi) | hi) | hi) | hi
    · cases e : f 0 with
      | true => simp [e] at hi
      | false => exact ⟨0, (by simpa [e] using hi : i = 3), e⟩
    · cases e : f 1 with
      | true => simp [e] at hi
      | false => exact ⟨1, (by simpa [e] using hi : i = 6), e⟩
    · cases e : f 2 with
      | true => simp [e] at hi
      | false => exact ⟨2, (by simpa [e] using hi : i = 9), e⟩
    · cases e : f 3 with
      | true => simp [e] at hi
      | false => exact ⟨3, (by simpa [e] using hi : i = 10), e⟩
    · cases e : f 4 with
      | true => simp [e] at hi
      | false => exact ⟨4, (by simpa [e] using hi : i = 11), e⟩
    · rcases hf' with e | e | e | e | e <;> simp [e] at hi
/-- The solver's parts as they were made. -/
structure NsAt (w : World) (v : Value) (n : Nat) (A : Ad) (W1 : World) : Prop where
  ok : A.Ok w W1.heap.size
  r : W1.heap[A.b1]? = some (.cells (madeCells #[.string ⟨#[]⟩] n) 9 (0, 0))
  s : W1.heap[A.b2]? = some (.cells (madeCells #[.string ⟨#[]⟩, .int .i64 0] (n * 2)) 72 (0, 0))
  f : W1.heap[A.b3]? = some (.cells (madeCells #[.int .i64 0] n) 3 (0, 0))
  m4 : W1.heap[A.b4]? = some (.map #[] 0)
  m5 : W1.heap[A.b5]? = some (.map #[] 0)
  bx : BoxAt A v n W1
  bl : Below w.heap.size w W1
def NsTo (w : World) (v : Value) (its : List Im) (e : Ending) (w' : World) : Prop := ∃ A W1, e = .returned (.pointer (some ⟨A.bx, 0, none⟩)) ∧ NsAt w v its.length A W1 ∧ Gp w W1 A.b4 its its.length w'
theorem nsAt_new {w X : World} {v : Value} {n : Nat} {b : Fin 5 → Nat} (hb : ∀ j, X.heap[b j]? = some (O5 n j) ∧ w.heap.size ≤ b j) (hne : ∀ i j, i ≠ j → b i ≠ b j) (hbl : Below w.heap.size w X) :
    NsAt w v n ⟨b 0, b 1, b 2, b 3, b 4, X.heap.size⟩ (X.alloc (.cells #[v, .slice (some ⟨b 0, 0, none⟩) n n, .slice (some ⟨b 1, 0, none⟩) n n, .slice (some ⟨b 2, 0, none⟩) n n, .map (some (b 3)), .map (some (b 4))] 69)) := by
  have lt : ∀ j, b j < X.heap.size := fun j => block_lt (hb j).1
  have old : ∀ j o, (X.alloc o).heap[b j]? = some (O5 n j) := fun j o => by rw [Below.heap_alloc _ _ _ (lt j)]; exact (hb j).1
  have l0 := lt 0; have l1 := lt 1; have l2 := lt 2; have l3 := lt 3; have l4 := lt 4
  refine ⟨⟨⟨hne 0 1 (by decide), hne 0 2 (by decide), hne 0 3 (by decide), hne 0 4 (by decide), by simp; omega, hne 1 2 (by decide), hne 1 3 (by decide), hne 1 4 (by decide), by simp; omega, hne 2 3 (by decide), hne 2 4 (by decide), by simp; omega, hne 3 4 (by decide), by simp; omega, by simp; omega⟩, ⟨(hb 0).2, (hb 1).2, (hb 2).2, (hb 3).2, (hb 4).2, hbl.size⟩, by simp; omega⟩, old 0 _, old 1 _, old 2 _, old 3 _, old 4 _, alloc_at rfl, hbl.alloc hbl.size _⟩
set_option maxHeartbeats 1600000 in
set_option maxRecDepth 100000 in
theorem newSolver_any (v : Value) (its : List Im) (w : World) (h : VRow 3 w v its.length (imsV its)) (hn : its.length ≤ 2048) (hsz : ∀ x ∈ its, x.b.size ≤ 1000) :
    Calls Tryz.prog 40 #[v] w fun e w' => NsTo w v its e w' := by
  have HT : Hid (∀ e w', NsTo w v its e w' ↔ ∃ A W1, e = .returned (.pointer (some ⟨A.bx, 0, none⟩)) ∧ NsAt w v its.length A W1 ∧ Gp w W1 A.b4 its its.length w') := hideIt (fun _ _ => Iff.rfl)
  have HSZ := hideIt (fun (i : Nat) (x : Im) (hx : its[i]? = some x) => hsz x (List.mem_of_getElem? hx))
  obtain ⟨i0, hi0, hz0, hz1, hz2⟩ := info_parts infoS
  obtain ⟨j0, hj0, hx0, hx1, hx2⟩ := info_parts infoSp
  obtain ⟨k0, hk0, hy0, hy1, hy2⟩ := info_parts infoZ
  obtain ⟨_, a, c, rfl, hlc, ⟨hcm, hnn⟩, hrow⟩ := h
  have HR := hideIt hrow
  obtain ⟨n, hnl⟩ : ∃ n, its.length = n := ⟨_, rfl⟩
  have HN := hideIt hnl
  rw [hnl] at hlc HR hn HT ⊢
  have hm1 : ∀ X : World, (Instr.makeSlice 22 (.int .i64 (n : Int)) (.int .i64 (n : Int))).run Tryz.prog X = .ok (.slice (some ⟨X.heap.size, 0, none⟩) n n) (X.alloc (.cells (madeCells #[.string ⟨#[]⟩] n) 9)) := fun X => by
    have := run_make (P := Tryz.prog) X 22 9 i0 (.string ⟨#[]⟩) Tryz.underlying22 hi0 hz0 .i64 .i64 (n : Int) (n : Int) (by omega) (by omega) (by rw [hz2]; omega) (by omega)
    rw [hz1] at this
    simp only [Int.toNat_natCast, Nat.mul_one] at this
    exact this
  have hm2 : ∀ X : World, (Instr.makeSlice 43 (.int .i64 (n : Int)) (.int .i64 (n : Int))).run Tryz.prog X = .ok (.slice (some ⟨X.heap.size, 0, none⟩) n n) (X.alloc (.cells (madeCells #[.string ⟨#[]⟩, .int .i64 0] (n * 2)) 72)) := fun X => by
    have := run_make (P := Tryz.prog) X 43 72 j0 (.agg #[.string ⟨#[]⟩, .int .i64 0]) Tryz.underlying43 hj0 hx0 .i64 .i64 (n : Int) (n : Int) (by omega) (by omega) (by rw [hx2]; omega) (by omega)
    rw [hx1] at this
    simp only [Int.toNat_natCast] at this
    exact this
  have hm3 : ∀ X : World, (Instr.makeSlice 23 (.int .i64 (n : Int)) (.int .i64 (n : Int))).run Tryz.prog X = .ok (.slice (some ⟨X.heap.size, 0, none⟩) n n) (X.alloc (.cells (madeCells #[.int .i64 0] n) 3)) := fun X => by
    have := run_make (P := Tryz.prog) X 23 3 k0 (.int .i64 0) Tryz.underlying23 hk0 hy0 .i64 .i64 (n : Int) (n : Int) (by omega) (by omega) (by rw [hy2]; omega) (by omega)
    rw [hy1] at this
    simp only [Int.toNat_natCast, Nat.mul_one] at this
    exact this
  have HM1 := hideIt hm1
  have HM2 := hideIt hm2
  have HM3 := hideIt hm3
  clear hm1 hm2 hm3
  go_enter Tryz.func40, Tryz.ntmps40
  go_upto_region 1 with fail
  refine wp_region_any (by kernel_rfl) ?_
  change wpAny _ _ _ _ _ _ _ (World.drew _)
  refine wpAny_take (i := 0) (oi := ⟨some 6, _, _, _, _, none⟩) (v := .slice a n c) rfl (by kernel_rfl) (by kernel_rfl) (by kernel_rfl) (fun _ _ _ h => h) (Or.inl ⟨by rfl, fun w => by go_simp⟩) ?_
  simp only [Act.put, List.setIfInBounds_toArray, List.set_cons_zero, List.set_cons_succ]
  refine wpAny_take (i := 1) (oi := ⟨some 7, _, _, _, _, none⟩) (v := .slice a n c) rfl (by kernel_rfl) (by kernel_rfl) (by kernel_rfl) (fun _ _ _ h => h) (Or.inl ⟨by rfl, fun w => by go_simp⟩) ?_
  simp only [Act.put, List.setIfInBounds_toArray, List.set_cons_zero, List.set_cons_succ]
  refine wpAny_take (i := 2) (oi := ⟨some 8, _, _, _, _, none⟩) (v := .int .i64 (n : Int)) rfl (by kernel_rfl) (by kernel_rfl) (by kernel_rfl) (fun _ _ _ h => h) (Or.inl ⟨by rfl, fun w => by go_simp⟩) ?_
  simp only [Act.put, List.setIfInBounds_toArray, List.set_cons_zero, List.set_cons_succ]
  refine wpAny_take (i := 4) (oi := ⟨some 10, _, _, _, _, none⟩) (v := .slice a n c) rfl (by kernel_rfl) (by kernel_rfl) (by kernel_rfl) (fun _ _ _ h => h) (Or.inl ⟨by rfl, fun w => by go_simp⟩) ?_
  simp only [Act.put, List.setIfInBounds_toArray, List.set_cons_zero, List.set_cons_succ]
  refine wpAny_take (i := 5) (oi := ⟨some 11, _, _, _, _, none⟩) (v := .int .i64 (n : Int)) rfl (by kernel_rfl) (by kernel_rfl) (by kernel_rfl) (fun _ _ _ h => h) (Or.inl ⟨by rfl, fun w => by go_simp⟩) ?_
  simp only [Act.put, List.setIfInBounds_toArray, List.set_cons_zero, List.set_cons_succ]
  refine wpAny_take (i := 7) (oi := ⟨some 13, _, _, _, _, none⟩) (v := .slice a n c) rfl (by kernel_rfl) (by kernel_rfl) (by kernel_rfl) (fun _ _ _ h => h) (Or.inl ⟨by rfl, fun w => by go_simp⟩) ?_
  simp only [Act.put, List.setIfInBounds_toArray, List.set_cons_zero, List.set_cons_succ]
  refine wpAny_take (i := 8) (oi := ⟨some 14, _, _, _, _, none⟩) (v := .int .i64 (n : Int)) rfl (by kernel_rfl) (by kernel_rfl) (by kernel_rfl) (fun _ _ _ h => h) (Or.inl ⟨by rfl, fun w => by go_simp⟩) ?_
  simp only [Act.put, List.setIfInBounds_toArray, List.set_cons_zero, List.set_cons_succ]
  refine allocs I5 mk5 (A5 (.slice a n c) n) (O5 n) (V5 n) w 3 ?_ ?_ ?_ ?_ 5 (List.finRange 5) (fun _ => none) _ rfl (List.nodup_finRange 5) (fun j => ⟨fun _ => List.mem_finRange j, fun _ => rfl⟩) (fun j b h => by cases h) (fun i j b _ h => by cases h) (Below.refl _ w).drew
  · intro f j
    match j with
    | 0 => rfl
    | 1 => rfl
    | 2 => rfl
    | 3 => rfl
    | 4 => rfl
  · refine ready5 ?_
    intro k0 k1 k2 k3 k4
    cases k0 <;> cases k1 <;> cases k2 <;> cases k3 <;> cases k4 <;> kernel_rfl
  · intro j
    match j with
    | 0 =>
      intro g X K hK
      have h1 := HM1.out X
      refine wpOp_step (o := ⟨some 9, .makeSlice 22 (.tmp 8) (.tmp 8), 22, _, _, none⟩) rfl (fun K' hK' => ?_)
      unfold A5 at hK ⊢
      go_simp
      exact hK' _ _ hK
    | 1 =>
      intro g X K hK
      have h1 := HM2.out X
      refine wpOp_step (o := ⟨some 12, .makeSlice 43 (.tmp 11) (.tmp 11), 43, _, _, none⟩) rfl (fun K' hK' => ?_)
      unfold A5 at hK ⊢
      go_simp
      exact hK' _ _ hK
    | 2 =>
      intro g X K hK
      have h1 := HM3.out X
      refine wpOp_step (o := ⟨some 15, .makeSlice 23 (.tmp 14) (.tmp 14), 23, _, _, none⟩) rfl (fun K' hK' => ?_)
      unfold A5 at hK ⊢
      go_simp
      exact hK' _ _ hK
    | 3 =>
      intro g X K hK
      have h1 := run_makeMap (P := Tryz.prog) 67 X
      refine wpOp_step (o := ⟨some 16, .makeMap 67 none, 67, _, _, none⟩) rfl (fun K' hK' => ?_)
      unfold A5 at hK ⊢
      go_simp
      exact hK' _ _ hK
    | 4 =>
      intro g X K hK
      have h1 := run_makeMap (P := Tryz.prog) 59 X
      refine wpOp_step (o := ⟨some 17, .makeMap 59 none, 59, _, _, none⟩) rfl (fun K' hK' => ?_)
      unfold A5 at hK ⊢
      go_simp
      exact hK' _ _ hK
  · intro b X hb hne hbl
    have HNS := hideIt (nsAt_new (v := .slice a n c) hb hne hbl)
    obtain ⟨b1, e1⟩ : ∃ b1, b 0 = b1 := ⟨_, rfl⟩
    obtain ⟨b2, e2⟩ : ∃ b1, b 1 = b1 := ⟨_, rfl⟩
    obtain ⟨b3, e3⟩ : ∃ b1, b 2 = b1 := ⟨_, rfl⟩
    obtain ⟨b4, e4⟩ : ∃ b1, b 3 = b1 := ⟨_, rfl⟩
    obtain ⟨b5, e5⟩ : ∃ b1, b 4 = b1 := ⟨_, rfl⟩
    change wpAny _ _ _ _ _ #[true, true, true, true, true, true, true, true, true, true, true, true, false, false, false] { tmps := #[.slice a n c, undef, .pointer none, undef, undef, undef, .slice a n c, .slice a n c, .int .i64 (n : Int), .slice (some ⟨b 0, 0, none⟩) n n, .slice a n c, .int .i64 (n : Int), .slice (some ⟨b 1, 0, none⟩) n n, .slice a n c, .int .i64 (n : Int), .slice (some ⟨b 2, 0, none⟩) n n, .map (some (b 3)), .map (some (b 4)), undef, undef, undef, undef, undef, undef, undef, undef, undef, undef, undef, undef, undef, undef, undef, undef, undef, undef, undef, undef, undef, undef, undef, undef, undef, undef, undef], defers := [] } X
    rw [e1, e2, e3, e4, e5] at HNS ⊢
    clear e1 e2 e3 e4 e5 hb hne hbl
    refine wpAny_ready (rs := [12]) (by kernel_rfl) (by simp) (AllReady.cons (o := _) rfl (fun K hK => ?_) AllReady.nil)
    go_simp
    refine hK _ _ ?_
    clear hK K
    refine wpAny_ready (rs := [13]) (by kernel_rfl) (by simp) (AllReady.cons (o := _) rfl (fun K hK => ?_) AllReady.nil)
    go_simp
    refine hK _ _ ?_
    clear hK K
    refine wpAny_ready (rs := [14]) (by kernel_rfl) (by simp) (AllReady.cons (o := _) rfl (fun K hK => ?_) AllReady.nil)
    go_simp
    refine hK _ _ ?_
    clear hK K
    refine wpAny_done (by kernel_rfl) ?_ _
    obtain ⟨bx, hbx⟩ : ∃ bx, X.heap.size = bx := ⟨_, rfl⟩
    obtain ⟨W1, hW1⟩ : ∃ W1, X.alloc (.cells #[.slice a n c, .slice (some ⟨b1, 0, none⟩) n n, .slice (some ⟨b2, 0, none⟩) n n, .slice (some ⟨b3, 0, none⟩) n n, .map (some b4), .map (some b5)] 69) = W1 := ⟨_, rfl⟩
    rw [hW1, hbx] at HNS ⊢
    clear hW1 hbx
    have HG0 := hideIt (Gp.start (its := its) HNS.out.bl HNS.out.m4)
    have hb4 : w.heap.size ≤ b4 ∧ b4 < W1.heap.size ∧ bx < W1.heap.size ∧ bx ≠ b4 := ⟨HNS.out.ok.ge.2.2.2.1, HNS.out.ok.lt.2.2.2.1, HNS.out.ok.lt.2.2.2.2.2, fun e => HNS.out.ok.nd.2.2.2.2.2.2.2.2.2.2.2.2.2.1 e.symm⟩
    have HB4 := hideIt hb4
    have hw1 : w.heap.size ≤ W1.heap.size := HNS.out.bl.size
    obtain ⟨BO, hBO⟩ : ∃ BO, Obj.cells #[.slice a n c, .slice (some ⟨b1, 0, none⟩) n n, .slice (some ⟨b2, 0, none⟩) n n, .slice (some ⟨b3, 0, none⟩) n n, .map (some b4), .map (some b5)] 69 (0, 0) = BO := ⟨_, rfl⟩
    have HBX : Hid (W1.heap[bx]? = some BO) := hideIt (by rw [← hBO]; exact HNS.out.bx)
    have HC4 : Hid (∀ X : World, X.heap[bx]? = some BO → X.cell? ⟨bx, 4, none⟩ = some (.map (some b4))) := hideIt (fun X hX => by rw [← hBO] at hX; exact cellAt hX rfl)
    clear hBO
    have nI : (n : Int) ≤ 2048 := by omega
    clear hb4 hrow hnn hcm hnl
    go_wp2
    go_loopw [22] (fun t22 wr => ∃ i : Nat, i ≤ n ∧ t22 = .int .i64 (i : Int) ∧ Gp w W1 b4 its i wr) (fun t22 _ => n - (intOf t22).toNat)
    case atStart => exact ⟨0, by omega, rfl, HG0.out⟩
    case round =>
      obtain ⟨i, hi, rfl, hg⟩ := hrel
      by_cases hlt : i < n
      · have i1 : (i : Int) < (n : Int) := by omega
        have i2 : decide ((i : Int) < (n : Int)) = true := decide_eq_true i1
        obtain ⟨b, o, rfl, hcells⟩ := HR.out (by omega)
        obtain ⟨x, hxi⟩ : ∃ x, its[i]? = some x := ⟨its[i]'(by rw [HN.out]; exact hlt), by simp⟩
        have HXI := hideIt hxi
        obtain ⟨D, hG, hD, hK, hS, hB⟩ := hg
        have HD := hideIt hD
        have HK := hideIt hK
        have HB := hideIt hB
        have HM := hideIt (groups_isMap hG)
        have HWR := hideIt hS
        obtain ⟨k0', k1', k2'⟩ := imsV_at _ _ _ hxi
        have c0 := (hcells.below hB).2 _ _ k0'
        have c1 := (hcells.below hB).2 _ _ k1'
        have c2 := (hcells.below hB).2 _ _ k2'
        rw [← Nat.add_assoc] at c1 c2
        have hkey := keyOfL x.b (by have := HSZ.out i x hxi; omega)
        have HKY := hideIt hkey
        have HX0 : Hid (XB bx wr.heap.size BO (.cells #[.string x.b, .string x.d, .int .i64 x.pl] 32 (0, 0)) (wr.alloc (.cells #[.string x.b, .string x.d, .int .i64 x.pl] 32)).drew) := hideIt ⟨by
          rw [heap_drew, Below.heap_alloc _ _ _ (by have := HB4.out; omega), hK bx HB4.out.2.2.1 HB4.out.2.2.2]
          exact HBX.out, by rw [heap_drew]; exact alloc_at rfl⟩
        have HSC : Hid (∀ X, XB bx wr.heap.size BO (.cells #[.string x.b, .string x.d, .int .i64 x.pl] 32 (0, 0)) X → X.cell? ⟨bx, 4, none⟩ = some (.map (some b4)) ∧ X.cell? ⟨wr.heap.size, 0, none⟩ = some (.string x.b) ∧ XB bx wr.heap.size BO (.cells #[.string x.b, .string x.d, .int .i64 x.pl] 32 (0, 0)) X) := hideIt (fun X hX => ⟨HC4.out X hX.1, cellAt hX.2 rfl, hX⟩)
        have HG1 : Hid ((wr.alloc (.cells #[.string x.b, .string x.d, .int .i64 x.pl] 32)).drew.ownsGroups Tryz.prog 9 W1.heap.size 3 .i64 b4 i D) := hideIt (groups_below hG (((Below.refl _ _).alloc (Nat.le_refl _) _).drew))
        have HG2 : Hid (((wr.alloc (.cells #[.string x.b, .string x.d, .int .i64 x.pl] 32)).drew.alloc (.cells #[.int .i64 (i : Int)] 3)).ownsGroups Tryz.prog 9 W1.heap.size 3 .i64 b4 i D) := hideIt (groups_below HG1.out ((Below.refl _ _).alloc (Nat.le_refl _) _))
        have HBW : Hid (Below wr.heap.size wr ((wr.alloc (.cells #[.string x.b, .string x.d, .int .i64 x.pl] 32)).drew.alloc (.cells #[.int .i64 (i : Int)] 3))) := hideIt ((((Below.refl _ wr).alloc (Nat.le_refl _) _).drew).alloc (by simp) _)
        have HNW : Hid (∀ j uu, [Value.int .i64 (i : Int)][j]? = some uu → ((wr.alloc (.cells #[.string x.b, .string x.d, .int .i64 x.pl] 32)).drew.alloc (.cells #[.int .i64 (i : Int)] 3)).cell? ((⟨wr.heap.size + 1, 0, none⟩ : Addr).add j) = some uu) := hideIt (fun j uu hj => by
          have := one_new (w := (wr.alloc (.cells #[.string x.b, .string x.d, .int .i64 x.pl] 32)).drew) (Value.int .i64 (i : Int)) 3 j uu hj
          simpa using this)
        have hwf : (Lit.int IntKind.i64 (i : Int)).wf = true := WalkArith.wf_i64 (by omega)
        have hbs : W1.heap.size ≤ ((wr.alloc (.cells #[.string x.b, .string x.d, .int .i64 x.pl] 32)).drew.alloc (.cells #[.int .i64 (i : Int)] 3)).heap.size := Nat.le_trans HWR.out HBW.out.size
        have hi2048 : i < 2048 := by omega
        have HXG : Hid (∀ u zs, ((wr.alloc (.cells #[.string x.b, .string x.d, .int .i64 x.pl] 32)).drew.alloc (.cells #[.int .i64 (i : Int)] 3)).ownsInts W1.heap.size 3 .i64 u zs → some bx ≠ u.ownBlock ∧ some wr.heap.size ≠ u.ownBlock) := hideIt (fun u zs hu => ⟨fun e => by
          have := (hu.1.lt bx e.symm).1
          have := HB4.out.2.2.1
          omega, other_type hu.1 (HX0.out.alloc _).2 (by decide)⟩)
        have hxb4 : bx ≠ b4 ∧ wr.heap.size ≠ b4 := ⟨HB4.out.2.2.2, by have := HB4.out; have := HWR.out; omega⟩
        have HXB := hideIt hxb4
        obtain ⟨u1, zs1, hr1, hat1, hoi1, hzl1, hbk1⟩ := HG1.out.at (Go.Maps.string_keyed Tryz.underlying9) Tryz.underlying67 (zeroIs _) (by unfold maxLen; omega) HKY.out
        have HU1 := hideIt (hoi1.alloc (.cells #[.int .i64 (i : Int)] 3))
        have HBK1 := hideIt (back_alloc hbk1 (.cells #[.int .i64 (i : Int)] 3))
        have HZ1 := hideIt (row_is hoi1 ((HD.out x.b).symm.trans hat1))
        have HZL1 := hideIt hzl1
        obtain ⟨u2, zs2, hr2, hat2, hoi2, hzl2, hbk2⟩ := HG2.out.at (Go.Maps.string_keyed Tryz.underlying9) Tryz.underlying67 (zeroIs _) (by unfold maxLen; omega) HKY.out
        have hr3 : (Instr.lookup 67 (.map (some b4)) (.string x.b) false).run Tryz.prog ((wr.alloc (.cells #[.string x.b, .string x.d, .int .i64 x.pl] 32)).alloc (.cells #[.int .i64 (i : Int)] 3)).drew = .ok u2 ((wr.alloc (.cells #[.string x.b, .string x.d, .int .i64 x.pl] 32)).alloc (.cells #[.int .i64 (i : Int)] 3)).drew := hr2
        clear hr2
        have HU2 := hideIt hoi2
        have HBK2 := hideIt hbk2
        have HZ2 := hideIt (row_is hoi2 ((HD.out x.b).symm.trans hat2))
        have HZL2 := hideIt hzl2
        clear hcells hxi k0' k1' k2' hG hD hK hB hkey hxb4 hat1 hoi1 hzl1 hbk1 hat2 hoi2 hzl2 hbk2
        go_wp2
        go_region_held3 (fun X => X.cell? ⟨bx, 4, none⟩ = some (.map (some b4)) ∧ X.cell? ⟨wr.heap.size, 0, none⟩ = some (.string x.b) ∧ XB bx wr.heap.size BO (.cells #[.string x.b, .string x.d, .int .i64 x.pl] 32 (0, 0)) X) (first | (exact HSC.out _ HX0.out) | assumption | (exact HSC.out _ SB.out) | (exact HSC.out _ SA.out) | (exact (HSC.out _ ((‹_ ∧ _ ∧ XB _ _ _ _ _›).2.2.alloc _))))
          (first
            | (refine step_append_lies _ (by rfl) (.tmp 39) (.tmp 41) 23 (by rfl) W1.heap.size 3 k0 (.int .i64 0) 1 8 Tryz.underlying23 hk0 hy0 hy1 hy2 rfl (by decide) u1 zs1.length (zs1.map (Value.int .i64)) (by rfl) HU1.out.1 ⟨wr.heap.size + 1, 0, none⟩ 1 1 [.int .i64 (i : Int)] (by rfl) rfl HNW.out (fun u hu => by simp at hu; subst hu; rfl) (by decide) (by have := HZL1.out; unfold maxLen; omega) (by have := HZL1.out; omega) hbs (wr.heap.size + 2) (by simp) ?_; intro g cap wY hownY hgY hlocY _; have HV := hideIt (HU1.out.appended hownY hwf); have HGY := hideIt hgY; obtain ⟨w2, hrun2, h2, hg2⟩ := HBK1.out wY _ _ hgY HV.out (by have := HZL1.out; simp; omega) (by rcases hlocY with h | h; exact .inl h.symm; exact .inr ⟨g, rfl, by rw [h]; simp⟩); have SA := hideIt ((HX0.out.alloc (.cells #[.int .i64 (i : Int)] 3)).grown hgY (HXG.out _ _ HU1.out).1 (HXG.out _ _ HU1.out).2); have SB := hideIt (SA.out.grown hg2 (fun e => HXB.out.1 (by simpa using e)) (fun e => HXB.out.2 (by simpa using e))); have FN := hideIt (Gp.next HXI.out HD.out HK.out HWR.out HB.out HM.out HZ1.out HU1.out HBW.out HGY.out HV.out h2 hg2 HB4.out.1 hw1); clear hownY hgY hlocY h2 hg2)
            | (refine step_append_lies _ (by rfl) (.tmp 39) (.tmp 41) 23 (by rfl) W1.heap.size 3 k0 (.int .i64 0) 1 8 Tryz.underlying23 hk0 hy0 hy1 hy2 rfl (by decide) u2 zs2.length (zs2.map (Value.int .i64)) (by rfl) HU2.out.1 ⟨wr.heap.size + 1, 0, none⟩ 1 1 [.int .i64 (i : Int)] (by rfl) rfl HNW.out (fun u hu => by simp at hu; subst hu; rfl) (by decide) (by have := HZL2.out; unfold maxLen; omega) (by have := HZL2.out; omega) hbs (wr.heap.size + 2) (by simp) ?_; intro g cap wY hownY hgY hlocY _; have HV := hideIt (HU2.out.appended hownY hwf); have HGY := hideIt hgY; obtain ⟨w2, hrun2, h2, hg2⟩ := HBK2.out wY _ _ hgY HV.out (by have := HZL2.out; simp; omega) (by rcases hlocY with h | h; exact .inl h.symm; exact .inr ⟨g, rfl, by rw [h]; simp⟩); have SA := hideIt ((HX0.out.alloc (.cells #[.int .i64 (i : Int)] 3)).grown hgY (HXG.out _ _ HU2.out).1 (HXG.out _ _ HU2.out).2); have SB := hideIt (SA.out.grown hg2 (fun e => HXB.out.1 (by simpa using e)) (fun e => HXB.out.2 (by simpa using e))); have FN := hideIt (Gp.next HXI.out HD.out HK.out HWR.out HB.out HM.out HZ2.out HU2.out HBW.out HGY.out HV.out h2 hg2 HB4.out.1 hw1); clear hownY hgY hlocY h2 hg2))
        all_goals go_wp2
        all_goals exact ⟨⟨i + 1, by omega, by go_num, FN.out⟩, by simp [intOf]; omega⟩
      · have i2 : decide ((i : Int) < (n : Int)) = false := decide_eq_false (by omega)
        obtain rfl : i = n := by omega
        have HG := hideIt hg
        clear hg
        go_wp2
        go_ret
        exact (HT.out _ _).2 ⟨⟨b1, b2, b3, b4, b5, bx⟩, W1, rfl, HNS.out, HG.out⟩
end Go.Proofs.YtdbbgpcjclmelaaGreatDoor.Ch
