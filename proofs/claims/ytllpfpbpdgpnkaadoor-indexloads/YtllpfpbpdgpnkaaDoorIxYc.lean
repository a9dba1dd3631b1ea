/- Indexes: all spots; the spots of one byte; where an object stands: walked. -/
import Derived.Test.YtllpfpbpdgpnkaaDoorIxYa
import Derived.Deep.RegionHeld3
import Derived.Lib.SliceRun
namespace Go.Proofs.YtllpfpbpdgpnkaaDoor.Ix
open Cb Go.RowKit Go.Shelf
theorem SCells.flat {w : World} {b o : Nat} {l : List Sp} (h : SCells w b o l) (j : Nat) (u : Value) (hj : (spsV l)[j]? = some u) : w.cell? ((⟨b, o, none⟩ : Addr).add j) = some u := by
  have hl : j < (spsV l).length := (List.getElem?_eq_some_iff.1 hj).1
  rw [spsV_len] at hl
  obtain ⟨x, hx⟩ : ∃ x, l[j / 2]? = some x := ⟨l[j / 2]'(by omega), by simp⟩
  obtain ⟨a, b'⟩ := spsV_at l (j / 2) x hx
  obtain ⟨c, d⟩ := h.2 (j / 2) x hx
  rw [Addr.add_lit]
  rcases (by omega : j % 2 = 0 ∨ j % 2 = 1) with h0 | h0
  · rw [show j / 2 * 2 = j by omega] at a c
    rw [a] at hj
    cases hj
    exact c
  · rw [show j / 2 * 2 + 1 = j by omega] at b'
    rw [b'] at hj
    cases hj
    rw [show o + j / 2 * 2 + 1 = o + j by omega] at d
    exact d
/-- A row of spots that a call made. -/
def RowTo (w : World) (m : List Sp) (e : Ending) (w' : World) : Prop := ∃ v, e = .returned v ∧ SRow w' v m ∧ Below w.heap.size w w'
set_option maxHeartbeats 800000 in
set_option maxRecDepth 100000 in
theorem cloneS_any (v : Value) (m : List Sp) (w : World) (h : SRow w v m) (hn : m.length ≤ 1000000) :
    Calls Tryd.prog 25 #[v] w fun e w' => RowTo w m e w' := by
  obtain ⟨i0, hi0, hz0, hz1, hz2⟩ := info_parts infoI
  have HT : Hid (∀ e w', RowTo w m e w' ↔ ∃ v, e = .returned v ∧ SRow w' v m ∧ Below w.heap.size w w') := hideIt (fun _ _ => Iff.rfl)
  obtain ⟨a, c, rfl, hlc, ⟨hcm, hnn⟩, hrow⟩ := h
  cases a with
  | none =>
    have h0 : m.length = 0 := by
      have := hnn rfl
      omega
    have HR : Hid (SRow w (.slice none 0 0) m) := hideIt (by rw [List.eq_nil_of_length_eq_zero h0]; exact SRow.nil w)
    have hc0 := hnn rfl
    subst hc0
    rw [h0]
    have hq : (binOp BinOp.eql 22 (.slice none 0 0) (.slice none 0 0)).run Tryd.prog w = .ok (.bool true) w := by kernel_rfl
    clear hrow hnn hcm hlc h0 hn
    go_enter Tryd.func25, Tryd.ntmps25
    go_wp2
    go_ret
    exact (HT.out _ _).2 ⟨_, rfl, HR.out, Below.refl _ _⟩
  | some ad =>
    have HC : Hid (∀ j u, (spsV m)[j]? = some u → (w.alloc (.cells #[] 38)).cell? (ad.add j) = some u) := hideIt (fun j u hj => by
      have hl : 0 < m.length := by
        have := (List.getElem?_eq_some_iff.1 hj).1
        rw [spsV_len] at this
        omega
      obtain ⟨b, o, e, hcells⟩ := hrow hl
      cases e
      exact (hcells.below ((Below.refl _ _).alloc (Nat.le_refl _) _)).flat j u hj)
    have HE : Hid ((w.alloc (.cells #[] 38)).ownsRow w.heap.size 38 2 (.slice (some ⟨w.heap.size, 0, none⟩) 0 0) 0 (spsV [])) := hideIt (own_empty (Below.refl _ _))
    have HL := hideIt (spsV_len m)
    have HO := hideIt (spsV_one m)
    have HF : Hid (∀ w' v', w'.ownsRow w.heap.size 38 2 v' (0 + m.length) (spsV [] ++ spsV m) → SRow w' v' m) := hideIt (fun w' v' h => by
      rw [Nat.zero_add] at h
      exact SRow.of_row h)
    have HB : Hid (∀ w', (w.alloc (.cells #[] 38)).grownBy w' (Value.slice (some ⟨w.heap.size, 0, none⟩) 0 0).ownBlock → Below w.heap.size w w') := hideIt (fun w' hg => ((Below.refl _ w).alloc (Nat.le_refl _) _).grown hg (by simp) (fun k hk => by simp [Value.ownBlock] at hk; omega))
    obtain ⟨n, hnl⟩ : ∃ n, m.length = n := ⟨_, rfl⟩
    rw [hnl] at hlc HL HF hn ⊢
    have hq : (binOp BinOp.eql 22 (.slice (some ad) n c) (.slice none 0 0)).run Tryd.prog w = .ok (.bool false) w := Lib.run_eql_slice_nil w 22 38 (some ad) n c 0 0 Tryd.underlying22
    clear hrow hnn hcm hnl
    go_enter Tryd.func25, Tryd.ntmps25
    go_wp2_with (first | (at_builtin; refine wpList_append_own _ rfl (.tmp 5) (.tmp 6) 22 rfl w.heap.size 38 i0 (.agg #[.string ⟨#[]⟩, .int .i64 0]) 2 24 Tryd.underlying22 hi0 hz0 hz1 hz2 rfl (by decide) _ 0 (spsV []) rfl HE.out ad n c (spsV m) rfl HL.out HC.out HO.out (by unfold maxLen; omega) (by omega) (by simp) ?_; intro v1 w1 hown1 hg1 _; have G1 := hideIt (HF.out _ _ hown1); have G2 := hideIt (HB.out _ hg1); clear hown1 hg1))
    go_ret
    exact (HT.out _ _).2 ⟨_, rfl, G1.out, G2.out⟩
set_option maxHeartbeats 400000 in
set_option maxRecDepth 100000 in
theorem all_any (g : Nat) (pack : ByteArray) (m : List Sp) (w : World) (h : IxAt w g pack m) (hn : m.length ≤ 1000000) : Calls Tryd.prog 11 #[.pointer (some ⟨g, 0, none⟩)] w fun e w' => RowTo w m e w' := by
  obtain ⟨v, h1, h2⟩ := h
  have c0 : w.cell? ⟨g, 257, none⟩ = some v := cellAt h1 (ixA_row _ _ _)
  have HC := hideIt (cloneS_any v m w h2 hn)
  obtain ⟨a, c, rfl, _, _, _⟩ := h2
  clear h1
  go_enter Tryd.func11, Tryd.ntmps11
  go_wp2_with (first | (go_at_call 25; refine HC.out.mono ?_; rintro e w1 ⟨v1, rfl, hr1, hb1⟩))
  go_ret
  exact ⟨_, rfl, hr1, hb1⟩
end Go.Proofs.YtllpfpbpdgpnkaaDoor.Ix
