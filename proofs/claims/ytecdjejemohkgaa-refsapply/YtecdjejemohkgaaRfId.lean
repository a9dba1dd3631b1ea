/- Refs: slices.Replace of one ref by one, or of none by one: walked. -/
import Derived.Test.YtecdjejemohkgaaRfIc
namespace Go.Proofs.Ytecdjejemohkgaa.Rf
open Cb Go.RowKit Go.Shelf
theorem insert_any (B : Nat) (v : Value) (l : List Rf) (i : Nat) (x : Rf) (gx : Nat) (w : World) (h : w.ownsRow B 59 2 v l.length (rfsV l)) (hB : B ≤ w.heap.size) (hl : l.length ≤ 100000) (hi : i ≤ l.length) (hx : w.heap[gx]? = some (.cells #[.string x.nm, .string x.id] 59 (0, 0))) (hne : v.ownBlock ≠ some gx) :
    Calls Try.prog 60 #[v, .int .i64 (i : Int), .slice (some ⟨gx, 0, none⟩) 1 1] w fun e w' => InsTo B w v (insR l i x) e w' := by
  by_cases he : i = l.length
  · subst he
    have e : insR l l.length x = l ++ [x] := by simp [insR]
    rw [e]
    exact insertEnd_any B v l x gx w h hl hB (cellAt hx rfl) (cellAt hx rfl)
  · rcases h.2 with ⟨_, h0⟩ | ⟨g, c, cur, e, _⟩
    · omega
    · subst e
      have hn : gx ≠ g := fun e => hne (by simp [Value.ownBlock, e])
      by_cases hc : l.length + 1 ≤ c
      · exact insertIn_room B g c l i x gx w h hl (by omega) hc hx hn
      · exact insertIn_grow B g c l i x gx w h hB hl (by omega) (by omega) hx
set_option maxHeartbeats 1600000 in
set_option maxRecDepth 100000 in
theorem replace_ins (B : Nat) (v : Value) (l : List Rf) (i : Nat) (x : Rf) (gx : Nat) (w : World) (h : w.ownsRow B 59 2 v l.length (rfsV l)) (hB : B ≤ w.heap.size) (hl : l.length ≤ 100000) (hi : i ≤ l.length) (hx : w.heap[gx]? = some (.cells #[.string x.nm, .string x.id] 59 (0, 0))) (hne : v.ownBlock ≠ some gx) :
    Calls Try.prog 49 #[v, .int .i64 (i : Int), .int .i64 (i : Int), .slice (some ⟨gx, 0, none⟩) 1 1] w fun e w' => InsTo B w v (insR l i x) e w' := by
  have HI := hideIt (insert_any B v l i x gx w h hB hl hi hx hne)
  have HT : Hid (∀ e w', InsTo B w v (insR l i x) e w' ↔ ∃ v', e = .returned v' ∧ w'.ownsRow B 59 2 v' (insR l i x).length (rfsV (insR l i x)) ∧ w.grownBy w' v.ownBlock) := hideIt (fun _ _ => Iff.rfl)
  have hcap : ∃ a c, v = .slice a l.length c ∧ l.length ≤ c ∧ (c : Int) ≤ 9223372036854775807 := by
    rcases h.2 with ⟨e, h0⟩ | ⟨g, c, cur, e, h1, hg, h2, h3, _⟩
    · exact ⟨none, 0, by rw [e, h0], by omega, by omega⟩
    · exact ⟨_, c, e, h2, by unfold maxLen at h3; omega⟩
  obtain ⟨a, c, hv, hc1, hc2⟩ := hcap
  subst hv
  obtain ⟨n, hn⟩ : ∃ n, l.length = n := ⟨_, rfl⟩
  rw [hn] at HI HT hi hc1 ⊢
  have i1 : (0 : Int) ≤ (i : Int) := by omega
  have i2 : (i : Int) ≤ (c : Int) := by omega
  have i3 : (i : Int) ≤ (n : Int) := by omega
  have i4 : i ≤ c := by omega
  clear h hx hne hn
  by_cases hci : c = i
  · have hin : i = n := by omega
    have hcn : c = n := by omega
    subst hcn
    subst hin
    clear hci i1 i2 i3 i4 hc1 hi hB hl
    go_enter Try.func49, Try.ntmps49
    go_wp2_with (first | (go_at_call 60; refine HI.out.mono ?_; intro e w1 hq; obtain ⟨v1, he, hq1, hq2⟩ := (HT.out _ _).1 hq; subst he; have Q1 := hideIt hq1; have Q2 := hideIt hq2; clear hq hq1 hq2))
    go_ret
    exact (HT.out _ _).2 ⟨_, rfl, Q1.out, Q2.out⟩
  · clear hi i3 hB hl hc1
    go_enter Try.func49, Try.ntmps49
    go_wp2_with (first | (go_at_call 60; refine HI.out.mono ?_; intro e w1 hq; obtain ⟨v1, he, hq1, hq2⟩ := (HT.out _ _).1 hq; subst he; have Q1 := hideIt hq1; have Q2 := hideIt hq2; clear hq hq1 hq2))
    go_ret
    exact (HT.out _ _).2 ⟨_, rfl, Q1.out, Q2.out⟩
/-- One ref in another's place. -/
def repR (l : List Rf) (i : Nat) (x : Rf) : List Rf := l.take i ++ [x] ++ l.drop (i + 1)
theorem own_take {w : World} {B n c i : Nat} {g : Nat} {l : List Rf} (h : w.ownsRow B 59 2 (.slice (some ⟨g, 0, none⟩) n c) n (rfsV l)) (hi : i ≤ n) (hn : l.length = n) : w.ownsRow B 59 2 (.slice (some ⟨g, 0, none⟩) i c) i (rfsV (l.take i)) := by
  rcases h.2 with ⟨e, _⟩ | ⟨g', cap, cur, e, hB, hg, hle, hcm, hsz, htk⟩
  · cases e
  cases e
  refine ⟨by rw [rfsV_len, List.length_take]; omega, .inr ⟨g, c, cur, rfl, hB, hg, by omega, hcm, hsz, ?_⟩⟩
  rw [← rfsV_take, ← htk, List.take_take, Nat.min_eq_left (by omega)]
set_option maxHeartbeats 3200000 in
set_option maxRecDepth 100000 in
theorem replace_end (B g c : Nat) (l : List Rf) (i : Nat) (x : Rf) (gx : Nat) (w : World) (h : w.ownsRow B 59 2 (.slice (some ⟨g, 0, none⟩) l.length c) l.length (rfsV l)) (hB : B ≤ w.heap.size) (hl : l.length ≤ 100000) (hi : i + 1 = l.length) (hx : w.heap[gx]? = some (.cells #[.string x.nm, .string x.id] 59 (0, 0))) :
    Calls Try.prog 49 #[.slice (some ⟨g, 0, none⟩) l.length c, .int .i64 (i : Int), .int .i64 ((i + 1 : Nat) : Int), .slice (some ⟨gx, 0, none⟩) 1 1] w fun e w' => InsTo B w (.slice (some ⟨g, 0, none⟩) l.length c) (repR l i x) e w' := by
  obtain ⟨i0, hi0, hz0, hz1, hz2⟩ := info_parts infoRf
  have HT : Hid (∀ e w', InsTo B w (.slice (some ⟨g, 0, none⟩) l.length c) (repR l i x) e w' ↔ ∃ v', e = .returned v' ∧ w'.ownsRow B 59 2 v' (repR l i x).length (rfsV (repR l i x)) ∧ w.grownBy w' (some g)) := hideIt (fun _ _ => Iff.rfl)
  have HC : Hid (∀ j u, (rfsV [x])[j]? = some u → w.cell? ((⟨gx, 0, none⟩ : Addr).add j) = some u) := hideIt (one_flat (cellAt hx rfl) (cellAt hx rfl))
  have HO := hideIt (rfsV_one [x])
  have hcb : l.length ≤ c ∧ (c : Int) ≤ 9223372036854775807 := by
    rcases h.2 with ⟨e, _⟩ | ⟨g', c', cur, e, h1, hg, h2, h3, _⟩
    · cases e
    · cases e; exact ⟨h2, by unfold maxLen at h3; omega⟩
  obtain ⟨n, hn⟩ : ∃ n, l.length = n := ⟨_, rfl⟩
  have HL : Hid ((repR l i x) = l.take i ++ [x]) := hideIt (by simp [repR, hi])
  have HOW := hideIt (own_take (i := i) (hn ▸ h) (by omega) hn)
  have HLN : Hid ((l.take i ++ [x]).length = n) := hideIt (by simp; omega)
  rw [hn] at HT hi hcb hl ⊢
  rw [hi]
  obtain ⟨hc1, hc2⟩ := hcb
  have nI : (i : Int) + 1 = (n : Int) := by omega
  have i1 : (0 : Int) ≤ (i : Int) := by omega
  have i2 : (i : Int) ≤ (c : Int) := by omega
  have i3 : (i : Int) ≤ (n : Int) := by omega
  have i4 : i ≤ c := by omega
  have i7 : (n : Int) ≤ (c : Int) := by omega
  have i5 : ¬ (i : Int) = (n : Int) := by omega
  have i6 : decide ((i : Int) = (n : Int)) = false := decide_eq_false i5
  have i8 : ¬ c = i := by omega
  have i9 : ((n : Int) == (n : Int)) = true := by simp
  have hin : i + 1 = n := hi
  clear h hx hn
  go_enter Try.func49, Try.ntmps49
  go_wp2_with (first | (at_builtin; refine wpList_append_own _ rfl _ _ 22 rfl B 59 i0 (.agg #[.string ⟨#[]⟩, .string ⟨#[]⟩]) 2 32 Try.underlying22 hi0 hz0 hz1 hz2 rfl (by decide) _ i (rfsV (l.take i)) rfl HOW.out ⟨gx, 0, none⟩ 1 1 (rfsV [x]) rfl rfl HC.out HO.out (by unfold maxLen; omega) (by omega) hB ?_; intro v1 w1 hown1 hg1 _; rw [hin] at hown1; have G1 := hideIt hown1; have G2 := hideIt hg1; obtain ⟨g3, c3, hv3⟩ := own_slice hown1; subst hv3; clear hown1 hg1))
  go_ret
  exact (HT.out _ _).2 ⟨_, rfl, by rw [HL.out, HLN.out, rfsV_append]; exact G1.out, G2.out⟩
end Go.Proofs.Ytecdjejemohkgaa.Rf
