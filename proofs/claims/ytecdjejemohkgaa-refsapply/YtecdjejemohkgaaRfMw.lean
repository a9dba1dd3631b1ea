/- Refs: a row moved by an update: walked. -/
import Derived.Test.YtecdjejemohkgaaRfMv
namespace Go.Proofs.Ytecdjejemohkgaa.Rf
open Cb Go.RowKit Go.Shelf
theorem replace_one (B : Nat) (v : Value) (l : List Rf) (i : Nat) (x : Rf) (gx : Nat) (w : World) (h : w.ownsRow B 59 2 v l.length (rfsV l)) (hB : B ≤ w.heap.size) (hl : l.length ≤ 100000) (hi : i < l.length) (hx : w.heap[gx]? = some (.cells #[.string x.nm, .string x.id] 59 (0, 0))) :
    Calls Try.prog 49 #[v, .int .i64 (i : Int), .int .i64 ((i + 1 : Nat) : Int), .slice (some ⟨gx, 0, none⟩) 1 1] w fun e w' => InsTo B w v (repR l i x) e w' := by
  rcases h.2 with ⟨_, h0⟩ | ⟨g, c, cur, e, _⟩
  · omega
  · subst e
    by_cases he : i + 1 = l.length
    · exact replace_end B g c l i x gx w h hB hl he hx
    · exact replace_in B g c l i x gx w h hl (by omega) hx
set_option maxHeartbeats 3200000 in
set_option maxRecDepth 100000 in
theorem moved_any (l : List Rf) (u : Up) (hl : l.length ≤ 100000) (hr : Rise l) (h1 : u.nm.size ≤ 281474976710656) (h2 : u.new.size ≤ 281474976710656) (hp : emp u.new = true → hitR u.nm l (plc u.nm l) = true) : MvC l u := by
  intro B v w hrow hB
  obtain ⟨un, uo, uw, uf⟩ := u
  have HT : Hid (∀ e w', InsTo B w v (movR l ⟨un, uo, uw, uf⟩) e w' ↔ ∃ v', e = .returned v' ∧ w'.ownsRow B 59 2 v' (movR l ⟨un, uo, uw, uf⟩).length (rfsV (movR l ⟨un, uo, uw, uf⟩)) ∧ w.grownBy w' v.ownBlock) := hideIt (fun _ _ => Iff.rfl)
  have hple := plc_le un l
  have hset := set_at un uw l hr
  have hdel := del_at un l hr
  have hhl := fun h => hit_lt (nm := un) (l := l) (n := plc un l) h
  have hmv : movR l ⟨un, uo, uw, uf⟩ = if emp uw = true then delR un l else setR un uw l := rfl
  obtain ⟨X, hX⟩ : ∃ X, w.alloc (.cells #[.string un, .string uo, .string uw, .bool uf] 34) = X := ⟨_, rfl⟩
  have hbX : Below w.heap.size w X := by rw [← hX]; exact new_below w _
  have hxb : X.heap[w.heap.size]? = some (.cells #[.string un, .string uo, .string uw, .bool uf] 34 (0, 0)) := by rw [← hX]; exact alloc_at rfl
  have hXs : X.heap.size = w.heap.size + 1 := by rw [← hX]; simp
  have HXC : Hid (∀ w', Below X.heap.size X w' → w'.cell? ⟨w.heap.size, 0, none⟩ = some (.string un) ∧ w'.cell? ⟨w.heap.size, 2, none⟩ = some (.string uw)) := hideIt (fun w' hb => by
    have := (hb.block _ (by omega)).trans hxb
    exact ⟨cellAt this rfl, cellAt this rfl⟩)
  have HS := hideIt (search_any v l un X (VRow.of_row (own_below hrow hbX)) hl hr)
  obtain ⟨p, hpp⟩ : ∃ p, plc un l = p := ⟨_, rfl⟩
  obtain ⟨hit, hhit⟩ : ∃ hit, hitR un l p = hit := ⟨_, rfl⟩
  have hpn : (Up.mk un uo uw uf).new = uw := rfl
  have hpm : (Up.mk un uo uw uf).nm = un := rfl
  rw [hpn, hpm] at hp
  rw [hpp] at HS hp hple hset hdel hhl
  rw [hhit] at HS hp hset hdel hhl
  have HW := hideIt hX
  have HBX := hideIt hbX
  have pI : (p : Int) ≤ 100000 := by omega
  have HROW := hideIt hrow
  have HHL := hideIt hhl
  have HL0 := hideIt hl
  unfold upA
  simp only
  cases hem : emp uw with
  | true =>
    have hh := hp hem
    subst hh
    rw [if_pos rfl] at hdel
    have hlt := hhl rfl
    have HMV : Hid (movR l ⟨un, uo, uw, uf⟩ = l.take p ++ l.drop (p + 1)) := hideIt (by rw [hmv, if_pos hem, hdel])
    have HD : Hid (∀ w', Below X.heap.size X w' → Calls Try.prog 48 #[v, .int .i64 (p : Int), .int .i64 ((p + 1 : Nat) : Int)] w' fun e w'' => InsTo B w v (movR l ⟨un, uo, uw, uf⟩) e w'') := hideIt (fun w' hb => by
      have hbw := below_step hbX (Nat.le_refl _) hb
      refine (delete_any B v l p (p + 1) w' (own_below hrow hbw) hlt rfl hl).mono ?_
      intro e w'' hq
      rw [HMV.out]
      exact (insTo_of_mv hq).of_below hbw)
    obtain ⟨p1, hp1⟩ : ∃ p1, p + 1 = p1 := ⟨_, rfl⟩
    rw [hp1] at HD
    have p1I : (p : Int) + 1 = (p1 : Int) := by omega
    have em1 : (uw.toList == []) = true := hem
    have em2 : uw.toList.isEmpty = true := (emp_is uw).trans hem
    have em3 : uw.toList = [] := by simpa using em1
    clear hset hdel hmv hX hbX hxb hpp hhit hrow hhl hp hp1 hem
    go_enter Try.func26, Try.ntmps26
    go_wp2_with (first
      | (go_at_call 46; rw [HW.out]; refine HS.out.mono ?_; rintro e w1 ⟨rfl, hb1⟩; obtain ⟨c0, c2⟩ := HXC.out _ hb1; have B1 := hideIt hb1; clear hb1)
      | (go_at_call 48; refine (HD.out _ B1.out).mono ?_; intro e w2 hq; obtain ⟨v2, he, hq1, hq2⟩ := (HT.out _ _).1 hq; subst he; have Q1 := hideIt hq1; have Q2 := hideIt hq2; clear hq hq1 hq2))
    go_ret
    exact (HT.out _ _).2 ⟨_, rfl, Q1.out, Q2.out⟩
  | false =>
    have em1 : (uw.toList == []) = false := hem
    have em2 : uw.toList.isEmpty = false := (emp_is uw).trans hem
    have em3 : ¬ uw.toList = [] := beq_eq_false_iff_ne.1 em1
    have HMV : Hid (movR l ⟨un, uo, uw, uf⟩ = if hit = true then repR l p ⟨un, uw⟩ else insR l p ⟨un, uw⟩) := hideIt (by rw [hmv, if_neg (by rw [hem]; decide), hset])
    have HCA := hideIt (fun w => clone_any un w h1)
    have HCB := hideIt (fun w => clone_any uw w h2)
    have HNB : Hid (∀ w', Below w.heap.size w w' → v.ownBlock ≠ some w'.heap.size) := hideIt (fun w' hb e => by have := own_block_lt hrow e; have := hb.size; omega)
    have HBB := hideIt hB
    cases hit with
    | true =>
      have HR : Hid (∀ w', Below X.heap.size X w' → Calls Try.prog 49 #[v, .int .i64 (p : Int), .int .i64 ((p + 1 : Nat) : Int), .slice (some ⟨w'.heap.size, 0, none⟩) 1 1] (w'.alloc (.cells #[.string un, .string uw] 59)) fun e w'' => InsTo B w v (movR l ⟨un, uo, uw, uf⟩) e w'') := hideIt (fun w' hb => by
        have hbw := below_step HBX.out (Nat.le_refl _) hb
        have hbn := below_step hbw (Nat.le_refl _) (new_below w' (.cells #[.string un, .string uw] 59))
        refine (replace_one B v l p ⟨un, uw⟩ w'.heap.size _ (own_below HROW.out hbn) (Nat.le_trans HBB.out hbn.size) HL0.out (HHL.out rfl) (alloc_at rfl)).mono ?_
        intro e w'' hq
        rw [HMV.out, if_pos rfl]
        exact hq.of_below hbn)
      obtain ⟨p1, hp1⟩ : ∃ p1, p + 1 = p1 := ⟨_, rfl⟩
      rw [hp1] at HR
      have p1I : (p : Int) + 1 = (p1 : Int) := by omega
      clear hset hdel hmv hX hbX hxb hpp hhit hrow hhl hp hp1 hem h1 h2
      go_enter Try.func26, Try.ntmps26
      go_wp2_with (first
        | (go_at_call 46; rw [HW.out]; refine HS.out.mono ?_; rintro e w1 ⟨rfl, hb1⟩; have B1 := hideIt hb1; have D1 := hideIt hb1.drew; obtain ⟨c0, c2⟩ := HXC.out _ hb1; clear hb1))
      go_region_law (first
        | (go_simp; go_at_call 38; refine (HCB.out _).mono ?_; rintro e w3 ⟨rfl, hb3⟩; have FB := hideIt (below_step FA.out (Nat.le_refl _) hb3); clear hb3; dsimp only)
        | (go_simp; go_at_call 38; refine (HCA.out _).mono ?_; rintro e w2 ⟨rfl, hb2⟩; have FA := hideIt (below_step D1.out (Nat.le_refl _) hb2); obtain ⟨m0, m2⟩ := HXC.out _ FA.out; clear hb2; dsimp only)
        | (go_simp; go_at_call 49; refine (HR.out _ FB.out).mono ?_; intro e w6 hq; obtain ⟨v6, he, hq1, hq2⟩ := (HT.out _ _).1 hq; subst he; have Q1 := hideIt hq1; have Q2 := hideIt hq2; clear hq hq1 hq2; dsimp only))
      all_goals go_wp2
      all_goals go_ret
      all_goals exact (HT.out _ _).2 ⟨_, rfl, Q1.out, Q2.out⟩
    | false =>
      have HR : Hid (∀ w', Below X.heap.size X w' → Calls Try.prog 49 #[v, .int .i64 (p : Int), .int .i64 (p : Int), .slice (some ⟨w'.heap.size, 0, none⟩) 1 1] (w'.alloc (.cells #[.string un, .string uw] 59)) fun e w'' => InsTo B w v (movR l ⟨un, uo, uw, uf⟩) e w'') := hideIt (fun w' hb => by
        have hbw := below_step HBX.out (Nat.le_refl _) hb
        have hbn := below_step hbw (Nat.le_refl _) (new_below w' (.cells #[.string un, .string uw] 59))
        refine (replace_ins B v l p ⟨un, uw⟩ w'.heap.size _ (own_below HROW.out hbn) (Nat.le_trans HBB.out hbn.size) HL0.out hple (alloc_at rfl) (HNB.out _ hbw)).mono ?_
        intro e w'' hq
        rw [HMV.out, if_neg (by decide)]
        exact hq.of_below hbn)
      clear hset hdel hmv hX hbX hxb hpp hhit hrow hhl hp hem h1 h2 hple
      go_enter Try.func26, Try.ntmps26
      go_wp2_with (first
        | (go_at_call 46; rw [HW.out]; refine HS.out.mono ?_; rintro e w1 ⟨rfl, hb1⟩; have B1 := hideIt hb1; have D1 := hideIt hb1.drew; obtain ⟨c0, c2⟩ := HXC.out _ hb1; clear hb1))
      go_region_law (first
        | (go_simp; go_at_call 38; refine (HCB.out _).mono ?_; rintro e w3 ⟨rfl, hb3⟩; have FB := hideIt (below_step FA.out (Nat.le_refl _) hb3); clear hb3; dsimp only)
        | (go_simp; go_at_call 38; refine (HCA.out _).mono ?_; rintro e w2 ⟨rfl, hb2⟩; have FA := hideIt (below_step D1.out (Nat.le_refl _) hb2); obtain ⟨m0, m2⟩ := HXC.out _ FA.out; clear hb2; dsimp only)
        | (go_simp; go_at_call 49; refine (HR.out _ FB.out).mono ?_; intro e w6 hq; obtain ⟨v6, he, hq1, hq2⟩ := (HT.out _ _).1 hq; subst he; have Q1 := hideIt hq1; have Q2 := hideIt hq2; clear hq hq1 hq2; dsimp only))
      all_goals go_wp2
      all_goals go_ret
      all_goals exact (HT.out _ _).2 ⟨_, rfl, Q1.out, Q2.out⟩
end Go.Proofs.Ytecdjejemohkgaa.Rf
