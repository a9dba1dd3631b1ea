/- Refs: the same refs in memory of their own. -/
import Derived.Test.YtecdjejemohkgaaRfRd
import Derived.Test.YtecdjejemohkgaaRfRc
import Derived.Deep.RegionHeld3
namespace Go.Proofs.Ytecdjejemohkgaa.Rf
open Cb Go.RowKit
theorem VCells.flat {w : World} {b o : Nat} {l : List Value} (h : VCells w b o l) (j : Nat) (u : Value) (hj : l[j]? = some u) : w.cell? ((⟨b, o, none⟩ : Addr).add j) = some u := by
  rw [Addr.add_lit]
  exact h.2 j u hj
/-- A row of its own that a call made. -/
def OwTo (w : World) (m : List Rf) (e : Ending) (w' : World) : Prop := ∃ v, e = .returned v ∧ w'.ownsRow w.heap.size 59 2 v m.length (rfsV m) ∧ Below w.heap.size w w'
theorem own_nil (w : World) (B : Nat) (t : TypeId) (k : Nat) : w.ownsRow B t k (.slice none 0 0) 0 [] := ⟨by simp, .inl ⟨rfl, rfl⟩⟩
set_option maxHeartbeats 800000 in
set_option maxRecDepth 100000 in
theorem cloneR_any (v : Value) (m : List Rf) (w : World) (h : RRow w v m) (hn : m.length ≤ 100000) :
    Calls Try.prog 43 #[v] w fun e w' => OwTo w m e w' := by
  obtain ⟨i0, hi0, hz0, hz1, hz2⟩ := info_parts infoRf
  have HT : Hid (∀ e w', OwTo w m e w' ↔ ∃ v, e = .returned v ∧ w'.ownsRow w.heap.size 59 2 v m.length (rfsV m) ∧ Below w.heap.size w w') := hideIt (fun _ _ => Iff.rfl)
  obtain ⟨_, a, c, rfl, hlc, ⟨hcm, hnn⟩, hrow⟩ := h
  cases a with
  | none =>
    have h0 : m.length = 0 := by
      have := hnn rfl
      omega
    have HR : Hid (w.ownsRow w.heap.size 59 2 (.slice none 0 0) m.length (rfsV m)) := hideIt (by rw [List.eq_nil_of_length_eq_zero h0]; exact own_nil _ _ _ _)
    have hc0 := hnn rfl
    subst hc0
    have hq : (binOp BinOp.eql 22 (.slice none 0 0) (.slice none 0 0)).run Try.prog w = .ok (.bool true) w := by kernel_rfl
    obtain ⟨n, hnl⟩ : ∃ n, m.length = n := ⟨_, rfl⟩
    rw [hnl] at h0
    subst h0
    rw [hnl]
    clear hrow hnn hcm hlc hnl hn
    go_enter Try.func43, Try.ntmps43
    go_wp2
    go_ret
    exact (HT.out _ _).2 ⟨_, rfl, HR.out, Below.refl _ _⟩
  | some ad =>
    have HC : Hid (∀ j u, (rfsV m)[j]? = some u → (w.alloc (.cells #[] 59)).cell? (ad.add j) = some u) := hideIt (fun j u hj => by
      have hl : 0 < m.length := by
        have := (List.getElem?_eq_some_iff.1 hj).1
        rw [rfsV_len] at this
        omega
      obtain ⟨b, o, e, hcells⟩ := hrow hl
      cases e
      exact (hcells.below ((Below.refl _ _).alloc (Nat.le_refl _) _)).flat j u hj)
    have HE : Hid ((w.alloc (.cells #[] 59)).ownsRow w.heap.size 59 2 (.slice (some ⟨w.heap.size, 0, none⟩) 0 0) 0 (rfsV [])) := hideIt (new_empty _ _ _ _ (Nat.le_refl _))
    have HL := hideIt (rfsV_len m)
    have HO := hideIt (rfsV_one m)
    have HF : Hid (∀ (w' : World) v', w'.ownsRow w.heap.size 59 2 v' (0 + m.length) (rfsV [] ++ rfsV m) → w'.ownsRow w.heap.size 59 2 v' m.length (rfsV m)) := hideIt (fun w' v' h => by
      rw [Nat.zero_add] at h
      exact h)
    have HB : Hid (∀ w', (w.alloc (.cells #[] 59)).grownBy w' (Value.slice (some ⟨w.heap.size, 0, none⟩) 0 0).ownBlock → Below w.heap.size w w') := hideIt (fun w' hg => ((Below.refl _ w).alloc (Nat.le_refl _) _).grown hg (by simp) (fun k hk => by simp [Value.ownBlock] at hk; omega))
    obtain ⟨n, hnl⟩ : ∃ n, m.length = n := ⟨_, rfl⟩
    rw [hnl] at hlc HL HF hn HT ⊢
    have hq : (binOp BinOp.eql 22 (.slice (some ad) n c) (.slice none 0 0)).run Try.prog w = .ok (.bool false) w := Lib.run_eql_slice_nil w 22 59 (some ad) n c 0 0 Try.underlying22
    clear hrow hnn hcm hnl
    go_enter Try.func43, Try.ntmps43
    go_wp2_with (first | (at_builtin; refine wpList_append_own _ rfl (.tmp 5) (.tmp 6) 22 rfl w.heap.size 59 i0 (.agg #[.string ⟨#[]⟩, .string ⟨#[]⟩]) 2 32 Try.underlying22 hi0 hz0 hz1 hz2 rfl (by decide) _ 0 (rfsV []) rfl HE.out ad n c (rfsV m) rfl HL.out HC.out HO.out (by unfold maxLen; omega) (by omega) (by simp) ?_; intro v1 w1 hown1 hg1 _; have G1 := hideIt (HF.out _ _ hown1); have G2 := hideIt (HB.out _ hg1); clear hown1 hg1))
    go_ret
    exact (HT.out _ _).2 ⟨_, rfl, G1.out, G2.out⟩
end Go.Proofs.Ytecdjejemohkgaa.Rf
