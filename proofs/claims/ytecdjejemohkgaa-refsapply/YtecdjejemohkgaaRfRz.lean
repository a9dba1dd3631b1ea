/- Refs: slices.Insert of one ref at the end: walked. -/
import Derived.Test.YtecdjejemohkgaaRfRi
namespace Go.Proofs.Ytecdjejemohkgaa.Rf
open Cb Go.RowKit
/-- What a call leaves of a row of one's own that may have grown. -/
def InsTo (B : Nat) (w : World) (v : Value) (l : List Rf) (e : Ending) (w' : World) : Prop := ∃ v', e = .returned v' ∧ w'.ownsRow B 59 2 v' l.length (rfsV l) ∧ w.grownBy w' v.ownBlock
theorem one_flat {w : World} {g : Nat} {x : Rf} (h0 : w.cell? ⟨g, 0, none⟩ = some (.string x.nm)) (h1 : w.cell? ⟨g, 1, none⟩ = some (.string x.id)) (j : Nat) (u : Value) (h : (rfsV [x])[j]? = some u) : w.cell? ((⟨g, 0, none⟩ : Addr).add j) = some u := by
  rw [Addr.add_lit, Nat.zero_add]
  match j, h with
  | 0, h => simp [rfsV, rfV] at h; subst h; exact h0
  | 1, h => simp [rfsV, rfV] at h; subst h; exact h1
  | j + 2, h => simp [rfsV, rfV] at h
set_option maxHeartbeats 1600000 in
set_option maxRecDepth 100000 in
theorem insertEnd_any (B : Nat) (v : Value) (l : List Rf) (x : Rf) (g : Nat) (w : World) (h : w.ownsRow B 59 2 v l.length (rfsV l)) (hl : l.length ≤ 100000) (hB : B ≤ w.heap.size) (h0 : w.cell? ⟨g, 0, none⟩ = some (.string x.nm)) (h1 : w.cell? ⟨g, 1, none⟩ = some (.string x.id)) :
    Calls Try.prog 60 #[v, .int .i64 (l.length : Int), .slice (some ⟨g, 0, none⟩) 1 1] w fun e w' => InsTo B w v (l ++ [x]) e w' := by
  obtain ⟨i0, hi0, hz0, hz1, hz2⟩ := info_parts infoRf
  have HT : Hid (∀ e w', InsTo B w v (l ++ [x]) e w' ↔ ∃ v', e = .returned v' ∧ w'.ownsRow B 59 2 v' (l ++ [x]).length (rfsV (l ++ [x])) ∧ w.grownBy w' v.ownBlock) := hideIt (fun _ _ => Iff.rfl)
  have HE := hideIt h
  have HC : Hid (∀ j u, (rfsV [x])[j]? = some u → w.cell? ((⟨g, 0, none⟩ : Addr).add j) = some u) := hideIt (one_flat h0 h1)
  have HO := hideIt (rfsV_one [x])
  have HF : Hid (∀ (w' : World) v', w'.ownsRow B 59 2 v' (l.length + 1) (rfsV l ++ rfsV [x]) → w'.ownsRow B 59 2 v' (l ++ [x]).length (rfsV (l ++ [x]))) := hideIt (fun w' v' h => by
    rw [rfsV_append, List.length_append]
    exact h)
  obtain ⟨a, c, rfl⟩ := own_slice h
  have hnc : l.length ≤ c ∧ (c : Int) ≤ 9223372036854775807 := by
    rcases h.2 with ⟨e, e0⟩ | ⟨g', cap, cur, e, _, _, h2, h3, _⟩
    · simp only [Value.slice.injEq] at e
      obtain ⟨_, e1, e2⟩ := e
      omega
    · simp only [Value.slice.injEq] at e
      obtain ⟨_, e1, e2⟩ := e
      unfold maxLen at h3
      omega
  obtain ⟨n, hn⟩ : ∃ n, l.length = n := ⟨_, rfl⟩
  rw [hn] at HE HF hnc hl HT ⊢
  obtain ⟨hnc1, hnc2⟩ := hnc
  have nI : (n : Int) ≤ 100000 := by omega
  have nc : (n : Int) ≤ (c : Int) := by omega
  have m1 : ((n : Int) == (n : Int)) = true := by simp
  clear h hn
  by_cases hcn : c = n
  · have hcn3 := hcn.symm
    clear hcn
    subst hcn3
    go_enter Try.func60, Try.ntmps60
    go_wp2_with (first | (at_builtin; refine wpList_append_own _ rfl (.tmp 23) (.tmp 24) 22 rfl B 59 i0 (.agg #[.string ⟨#[]⟩, .string ⟨#[]⟩]) 2 32 Try.underlying22 hi0 hz0 hz1 hz2 rfl (by decide) _ n (rfsV l) rfl HE.out ⟨g, 0, none⟩ 1 1 (rfsV [x]) rfl rfl HC.out HO.out (by unfold maxLen; omega) (by omega) hB ?_; intro v1 w1 hown1 hg1 _; have G1 := hideIt (HF.out _ _ hown1); have G2 := hideIt hg1; clear hown1 hg1))
    go_ret
    exact (HT.out _ _).2 ⟨_, rfl, G1.out, G2.out⟩
  · have hcn2 : ¬ n = c := fun e => hcn e.symm
    go_enter Try.func60, Try.ntmps60
    go_wp2_with (first | (at_builtin; refine wpList_append_own _ rfl (.tmp 23) (.tmp 24) 22 rfl B 59 i0 (.agg #[.string ⟨#[]⟩, .string ⟨#[]⟩]) 2 32 Try.underlying22 hi0 hz0 hz1 hz2 rfl (by decide) _ n (rfsV l) rfl HE.out ⟨g, 0, none⟩ 1 1 (rfsV [x]) rfl rfl HC.out HO.out (by unfold maxLen; omega) (by omega) hB ?_; intro v1 w1 hown1 hg1 _; have G1 := hideIt (HF.out _ _ hown1); have G2 := hideIt hg1; clear hown1 hg1))
    go_ret
    exact (HT.out _ _).2 ⟨_, rfl, G1.out, G2.out⟩
end Go.Proofs.Ytecdjejemohkgaa.Rf
