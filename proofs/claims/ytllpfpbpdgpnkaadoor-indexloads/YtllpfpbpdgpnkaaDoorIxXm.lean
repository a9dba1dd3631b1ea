/- Indexes: rows of spots in memory. -/
import Derived.Test.YtllpfpbpdgpnkaaDoorIxXp
import Derived.Test.YtllpfpbpdgpnkaaDoorShelf
import Derived.Laws.Cover1
import Derived.Deep.RegionHeld3
import Derived.Laws.MakeOwn
namespace Go.Proofs.YtllpfpbpdgpnkaaDoor.Ix
open Cb Go.RowKit Go.Shelf
theorem cellAt {w : World} {g i : Nat} {cs : Array Value} {t : TypeId} {fr : Nat × Nat} {v : Value} (h : w.heap[g]? = some (.cells cs t fr)) (hv : cs[i]? = some v) : w.cell? ⟨g, i, none⟩ = some v := by simp [World.cell?, h, hv]
theorem block_lt {w : World} {g : Nat} {o : Obj} (h : w.heap[g]? = some o) : g < w.heap.size := by
  rcases Nat.lt_or_ge g w.heap.size with h' | h'
  · exact h'
  · simp [Array.getElem?_eq_none h'] at h
def spV (x : Sp) : List Value := [.string x.d, .int .i64 x.pl]
def spsV (l : List Sp) : List Value := l.flatMap spV
theorem spsV_len : ∀ l : List Sp, (spsV l).length = l.length * 2
  | [] => rfl
  | x :: t => by
    have := spsV_len t
    unfold spsV at this ⊢
    simp [spV] at this ⊢
    omega
theorem spsV_at : ∀ (l : List Sp) (j : Nat) (x : Sp), l[j]? = some x → (spsV l)[j * 2]? = some (.string x.d) ∧ (spsV l)[j * 2 + 1]? = some (.int .i64 x.pl)
  | [], j, x, h => by simp at h
  | y :: t, 0, x, h => by
    simp at h
    subst h
    exact ⟨rfl, rfl⟩
  | y :: t, j + 1, x, h => by
    have h' : t[j]? = some x := by simpa using h
    obtain ⟨a, b⟩ := spsV_at t j x h'
    have e : spsV (y :: t) = .string y.d :: .int .i64 y.pl :: spsV t := rfl
    rw [e, show (j + 1) * 2 = j * 2 + 1 + 1 by omega]
    exact ⟨by simpa using a, by simpa using b⟩
theorem spsV_snoc (l : List Sp) (x : Sp) : spsV (l ++ [x]) = spsV l ++ [.string x.d, .int .i64 x.pl] := by simp [spsV, spV]
theorem spsV_append (l m : List Sp) : spsV (l ++ m) = spsV l ++ spsV m := by simp [spsV]
theorem spsV_one (l : List Sp) : ∀ u ∈ spsV l, u.oneCell' = true := by
  intro u hu
  obtain ⟨x, _, hx⟩ := List.mem_flatMap.1 hu
  simp [spV] at hx
  rcases hx with rfl | rfl <;> rfl
/-- Spots that lie in memory one behind the other. -/
def SCells (w : World) (b o : Nat) (l : List Sp) : Prop := b < w.heap.size ∧ ∀ (i : Nat) (x : Sp), l[i]? = some x → w.cell? ⟨b, o + i * 2, none⟩ = some (.string x.d) ∧ w.cell? ⟨b, o + i * 2 + 1, none⟩ = some (.int .i64 x.pl)
def SRow (w : World) (v : Value) (l : List Sp) : Prop := ∃ a c, v = .slice a l.length c ∧ l.length ≤ c ∧ (c ≤ maxLen ∧ (a = none → c = 0)) ∧ (0 < l.length → ∃ b o, a = some ⟨b, o, none⟩ ∧ SCells w b o l)
theorem SCells.below {w w' : World} {b o : Nat} {l : List Sp} (h : SCells w b o l) (hb : Below w.heap.size w w') : SCells w' b o l :=
  ⟨Nat.lt_of_lt_of_le h.1 hb.size, fun i x hx => by
    obtain ⟨h1, h2⟩ := h.2 i x hx
    exact ⟨by rw [hb.cell (p := ⟨b, o + i * 2, none⟩) h.1]; exact h1, by rw [hb.cell (p := ⟨b, o + i * 2 + 1, none⟩) h.1]; exact h2⟩⟩
theorem SRow.below {w w' : World} {v : Value} {l : List Sp} (h : SRow w v l) (hb : Below w.heap.size w w') : SRow w' v l := by
  obtain ⟨a, c, h1, h2, h3, h4⟩ := h
  refine ⟨a, c, h1, h2, h3, fun h0 => ?_⟩
  obtain ⟨b, o, e, hc⟩ := h4 h0
  exact ⟨b, o, e, hc.below hb⟩
theorem SRow.nil (w : World) : SRow w (.slice none 0 0) [] := ⟨none, 0, rfl, Nat.le_refl _, ⟨Nat.zero_le _, fun _ => rfl⟩, fun h => by simp at h⟩
theorem SRow.of_row {w : World} {B : Nat} {t : TypeId} {v : Value} {l : List Sp} (h : w.ownsRow B t 2 v l.length (spsV l)) : SRow w v l := by
  rcases h.2 with ⟨e, h0⟩ | ⟨g, cap, cur, e, h1, hg, h2, h3, r⟩
  · exact ⟨none, 0, by rw [e, h0], by omega, ⟨by unfold maxLen; omega, fun _ => rfl⟩, fun hp => by omega⟩
  · subst e
    refine ⟨some ⟨g, 0, none⟩, cap, rfl, h2, ⟨h3, fun h => by cases h⟩, fun _ => ⟨g, 0, rfl, block_lt hg, fun j x hj => ?_⟩⟩
    have hl : j < l.length := (List.getElem?_eq_some_iff.1 hj).1
    obtain ⟨a, b⟩ := spsV_at l j x hj
    refine ⟨?_, ?_⟩
    · rw [Nat.zero_add, h.cellAt (j * 2) (by omega), a]
    · rw [Nat.zero_add, h.cellAt (j * 2 + 1) (by omega), b]
theorem SCells.sub {w : World} {b o : Nat} {l : List Sp} (h : SCells w b o l) (k m : Nat) : SCells w b (o + k * 2) ((l.drop k).take m) :=
  ⟨h.1, fun i x hx => by
    have hx' : l[k + i]? = some x := by
      rw [List.getElem?_take] at hx
      split at hx
      · rw [List.getElem?_drop] at hx; exact hx
      · cases hx
    have := h.2 (k + i) x hx'
    rw [show o + (k + i) * 2 = o + k * 2 + i * 2 by omega] at this
    exact this⟩
theorem own_below {w w' : World} {B n s : Nat} {t : TypeId} {v : Value} {xs : List Value} (h : w.ownsRow B t s v n xs) (hb : Below w.heap.size w w') : w'.ownsRow B t s v n xs := by
  refine ⟨h.1, ?_⟩
  rcases h.2 with h0 | ⟨g, cap, cur, e, h1, hg, r⟩
  · exact .inl h0
  · exact .inr ⟨g, cap, cur, e, h1, (hb.block g (block_lt hg)).trans hg, r⟩
theorem row_ge {B n s : Nat} {t : TypeId} {v : Value} {xs : List Value} {w : World} (h : w.ownsRow B t s v n xs) : ∀ k, v.ownBlock = some k → B ≤ k := by
  intro k hk
  rcases h.2 with ⟨e, _⟩ | ⟨g, cap, cur, e, h1, _⟩
  · subst e; simp [Value.ownBlock] at hk
  · subst e; simp [Value.ownBlock] at hk; omega
theorem own_mono {w : World} {B B' n s : Nat} {t : TypeId} {v : Value} {xs : List Value} (h : w.ownsRow B t s v n xs) (hB : B' ≤ B) : w.ownsRow B' t s v n xs := by
  refine ⟨h.1, ?_⟩
  rcases h.2 with h0 | ⟨g, cap, cur, e, h1, r⟩
  · exact .inl h0
  · exact .inr ⟨g, cap, cur, e, by omega, r⟩
theorem infoI : (Tryd.prog.info? 38).map (fun i => (i.zero, i.size, i.bytes)) = some (some (.agg #[.string ⟨#[]⟩, .int .i64 0]), 2, 24) := by kernel_rfl
theorem infoJ : (Tryd.prog.info? 37).map (fun i => (i.zero, i.size, i.bytes)) = some (some (.agg #[.string ⟨#[]⟩, .int .i64 0]), 2, 24) := by kernel_rfl
theorem two_new {w : World} (x : ByteArray) (z : Int) (t : TypeId) (j : Nat) (u : Value) (h : [Value.string x, .int .i64 z][j]? = some u) : (w.alloc (.cells #[.string x, .int .i64 z] t)).cell? ((⟨w.heap.size, 0, none⟩ : Addr).add j) = some u := by
  have hrow : (w.alloc (.cells #[.string x, .int .i64 z] t)).heap[w.heap.size]? = some (.cells #[.string x, .int .i64 z] t (0, 0)) := alloc_at rfl
  match j, h with
  | 0, h => exact cellAt hrow (by simpa using h)
  | 1, h => exact cellAt hrow (by simpa using h)
  | j + 2, h => simp at h
theorem own_empty {w w1 : World} {T : TypeId} (hb : Below w.heap.size w w1) : (w1.alloc (.cells #[] T)).ownsRow w.heap.size T 2 (.slice (some ⟨w1.heap.size, 0, none⟩) 0 0) 0 (spsV []) :=
  ⟨rfl, .inr ⟨w1.heap.size, 0, #[], rfl, hb.size, alloc_at rfl, Nat.le_refl _, Nat.zero_le _, rfl, rfl⟩⟩
theorem clone_any (s : ByteArray) (w : World) (hs : s.size ≤ 281474976710656) : Calls Tryd.prog 23 #[.string s] w fun e w' => e = .returned (.string s) ∧ Below w.heap.size w w' := by
  have H := hideIt (fun w => Tryd.stringslite_Clone s w hs)
  go_enter Tryd.func23, Tryd.ntmps23
  go_wp2_with (first | (go_at_call 40; refine (H.out _).mono ?_; rintro e w1 ⟨rfl, hb⟩))
  go_ret
  exact ⟨rfl, hb⟩
def wrI (n : Nat) (z : Int) : Bool := decide (¬ n = 32) || decide (z < 0) || decide (4194304 < z)
theorem wrong_is (x : Sp) : wrong x = wrI x.d.size x.pl := rfl
set_option maxHeartbeats 800000 in
set_option maxRecDepth 100000 in
theorem wrong_any (x : Sp) (w : World) : Calls Tryd.prog 20 #[.agg #[.string x.d, .int .i64 x.pl]] w fun e w' => e = .returned (.bool (wrong x)) ∧ Below w.heap.size w w' := by
  rw [wrong_is]
  obtain ⟨s, z⟩ := x
  obtain ⟨n, hn⟩ : ∃ n, s.size = n := ⟨_, rfl⟩
  have hn' : (s.size : Int) = (n : Int) := by rw [hn]
  obtain ⟨W, hW⟩ : ∃ W, w.alloc (.cells #[.string s, .int .i64 z] 38) = W := ⟨_, rfl⟩
  have hbW : Below w.heap.size w W := by rw [← hW]; exact (Below.refl _ _).alloc (Nat.le_refl _) _
  have c0 : W.cell? ⟨w.heap.size, 0, none⟩ = some (.string s) := cellAt (by rw [← hW]; exact alloc_at rfl) rfl
  have c1 : W.cell? ⟨w.heap.size, 1, none⟩ = some (.int .i64 z) := cellAt (by rw [← hW]; exact alloc_at rfl) rfl
  have HB := hideIt hbW
  have HW : Hid (wrI n z = (decide (¬ n = 32) || decide (z < 0) || decide (4194304 < z))) := hideIt rfl
  clear hbW
  rw [hn]
  obtain ⟨r, hr⟩ : ∃ r, wrI n z = r := ⟨_, rfl⟩
  rw [hr] at HW ⊢
  clear hr
  by_cases h1 : n = 32
  · have a1 : (n : Int) = 32 := by omega
    have a2 : ((n : Int) != 32) = false := by simpa using a1
    have a3 : ((n : Int) == 32) = true := by simpa using a1
    by_cases h2 : z < 0
    · have b1 : decide (z < 0) = true := decide_eq_true h2
      have HW2 : Hid (r = true) := hideIt (by rw [HW.out, b1]; simp)
      go_enter Tryd.func20, Tryd.ntmps20
      go_wp2
      go_ret
      exact ⟨by rw [HW2.out]; rfl, HB.out⟩
    · have b1 : decide (z < 0) = false := decide_eq_false h2
      obtain ⟨f, hf⟩ : ∃ f, decide ((4194304 : Int) < z) = f := ⟨_, rfl⟩
      have HW2 : Hid (r = f) := hideIt (by rw [HW.out, b1, hf, h1]; simp)
      cases f
      · have d1 : ¬ (4194304 : Int) < z := of_decide_eq_false hf
        go_enter Tryd.func20, Tryd.ntmps20
        go_wp2
        go_ret
        exact ⟨by rw [HW2.out]; rfl, HB.out⟩
      · have d1 : (4194304 : Int) < z := of_decide_eq_true hf
        go_enter Tryd.func20, Tryd.ntmps20
        go_wp2
        go_ret
        exact ⟨by rw [HW2.out]; rfl, HB.out⟩
  · have a1 : ¬ (n : Int) = 32 := by omega
    have a2 : ((n : Int) != 32) = true := by simpa using a1
    have a3 : ((n : Int) == 32) = false := by simpa using a1
    have HW2 : Hid (r = true) := hideIt (by rw [HW.out]; simp [h1])
    go_enter Tryd.func20, Tryd.ntmps20
    go_wp2
    go_ret
    exact ⟨by rw [HW2.out]; rfl, HB.out⟩
end Go.Proofs.YtllpfpbpdgpnkaaDoor.Ix
