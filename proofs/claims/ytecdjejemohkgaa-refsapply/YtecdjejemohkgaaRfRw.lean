/- Refs: slices.Clone of updates: walked. -/
import Derived.Test.YtecdjejemohkgaaRfRh
import Derived.Test.YtecdjejemohkgaaRfRj
namespace Go.Proofs.Ytecdjejemohkgaa.Rf
open Cb Go.RowKit
theorem infoUp : (Try.prog.info? 34).map (fun i => (i.zero, i.size, i.bytes)) = some (some (.agg #[.string ⟨#[]⟩, .string ⟨#[]⟩, .string ⟨#[]⟩, .bool false]), 4, 56) := by kernel_rfl
theorem upsV_one (l : List Up) : ∀ u ∈ upsV l, u.oneCell' = true := by
  intro u hu
  obtain ⟨x, _, h⟩ := List.mem_flatMap.1 hu
  simp [upV] at h
  rcases h with rfl | rfl | rfl | rfl <;> rfl
/-- A row of updates of its own that a call made. -/
def OwToU (w : World) (m : List Up) (e : Ending) (w' : World) : Prop := ∃ v, e = .returned v ∧ w'.ownsRow w.heap.size 34 4 v m.length (upsV m) ∧ Below w.heap.size w w'
set_option maxHeartbeats 800000 in
set_option maxRecDepth 100000 in
theorem cloneU_any (v : Value) (m : List Up) (w : World) (h : URow w v m) (hn : m.length ≤ 100000) :
    Calls Try.prog 24 #[v] w fun e w' => OwToU w m e w' := by
  obtain ⟨i0, hi0, hz0, hz1, hz2⟩ := info_parts infoUp
  have HT : Hid (∀ e w', OwToU w m e w' ↔ ∃ v, e = .returned v ∧ w'.ownsRow w.heap.size 34 4 v m.length (upsV m) ∧ Below w.heap.size w w') := hideIt (fun _ _ => Iff.rfl)
  obtain ⟨_, a, c, rfl, hlc, ⟨hcm, hnn⟩, hrow⟩ := h
  cases a with
  | none =>
    have h0 : m.length = 0 := by
      have := hnn rfl
      omega
    have HR : Hid (w.ownsRow w.heap.size 34 4 (.slice none 0 0) m.length (upsV m)) := hideIt (by rw [List.eq_nil_of_length_eq_zero h0]; exact own_nil _ _ _ _)
    have hc0 := hnn rfl
    subst hc0
    have hq : (binOp BinOp.eql 25 (.slice none 0 0) (.slice none 0 0)).run Try.prog w = .ok (.bool true) w := by kernel_rfl
    obtain ⟨n, hnl⟩ : ∃ n, m.length = n := ⟨_, rfl⟩
    rw [hnl] at h0
    subst h0
    rw [hnl]
    clear hrow hnn hcm hlc hnl hn
    go_enter Try.func24, Try.ntmps24
    go_wp2
    go_ret
    exact (HT.out _ _).2 ⟨_, rfl, HR.out, Below.refl _ _⟩
  | some ad =>
    have HC : Hid (∀ j u, (upsV m)[j]? = some u → (w.alloc (.cells #[] 34)).cell? (ad.add j) = some u) := hideIt (fun j u hj => by
      have hl : 0 < m.length := by
        have := (List.getElem?_eq_some_iff.1 hj).1
        rw [upsV_len] at this
        omega
      obtain ⟨b, o, e, hcells⟩ := hrow hl
      cases e
      exact (hcells.below ((Below.refl _ _).alloc (Nat.le_refl _) _)).flat j u hj)
    have HE : Hid ((w.alloc (.cells #[] 34)).ownsRow w.heap.size 34 4 (.slice (some ⟨w.heap.size, 0, none⟩) 0 0) 0 (upsV [])) := hideIt (new_empty _ _ _ _ (Nat.le_refl _))
    have HL := hideIt (upsV_len m)
    have HO := hideIt (upsV_one m)
    have HF : Hid (∀ (w' : World) v', w'.ownsRow w.heap.size 34 4 v' (0 + m.length) (upsV [] ++ upsV m) → w'.ownsRow w.heap.size 34 4 v' m.length (upsV m)) := hideIt (fun w' v' h => by
      rw [Nat.zero_add] at h
      exact h)
    have HB : Hid (∀ w', (w.alloc (.cells #[] 34)).grownBy w' (Value.slice (some ⟨w.heap.size, 0, none⟩) 0 0).ownBlock → Below w.heap.size w w') := hideIt (fun w' hg => ((Below.refl _ w).alloc (Nat.le_refl _) _).grown hg (by simp) (fun k hk => by simp [Value.ownBlock] at hk; omega))
    obtain ⟨n, hnl⟩ : ∃ n, m.length = n := ⟨_, rfl⟩
    rw [hnl] at hlc HL HF hn HT ⊢
    have hq : (binOp BinOp.eql 25 (.slice (some ad) n c) (.slice none 0 0)).run Try.prog w = .ok (.bool false) w := Lib.run_eql_slice_nil w 25 34 (some ad) n c 0 0 Try.underlying25
    clear hrow hnn hcm hnl
    go_enter Try.func24, Try.ntmps24
    go_wp2_with (first | (at_builtin; refine wpList_append_own _ rfl (.tmp 5) (.tmp 6) 25 rfl w.heap.size 34 i0 (.agg #[.string ⟨#[]⟩, .string ⟨#[]⟩, .string ⟨#[]⟩, .bool false]) 4 56 Try.underlying25 hi0 hz0 hz1 hz2 rfl (by decide) _ 0 (upsV []) rfl HE.out ad n c (upsV m) rfl HL.out HC.out HO.out (by unfold maxLen; omega) (by omega) (by simp) ?_; intro v1 w1 hown1 hg1 _; have G1 := hideIt (HF.out _ _ hown1); have G2 := hideIt (HB.out _ hg1); clear hown1 hg1))
    go_ret
    exact (HT.out _ _).2 ⟨_, rfl, G1.out, G2.out⟩
end Go.Proofs.Ytecdjejemohkgaa.Rf
