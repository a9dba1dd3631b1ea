/- A path's names, as the program tells them, and names as a path, walked. -/
import Derived.Test.YtgbmfhbodfmpbaaDoorLsp
import Derived.Test.YtgbmfhbodfmpbaaDoorLbw
import Derived.Test.YtgbmfhbodfmpbaaDoorShelf
namespace Go.Proofs.YtgbmfhbodfmpbaaDoor
open Go.RowKit Go.Shelf
/-- The one word of the library's that a cut of texts reads is a number. -/
def MaxAt (w : World) : Prop := ∃ m, w.cell? ⟨0, 0, none⟩ = some (.int .i64 m)
theorem MaxAt.pos {w : World} (h : MaxAt w) : 0 < w.heap.size := by
  obtain ⟨m, h⟩ := h
  by_cases hz : 0 < w.heap.size
  · exact hz
  · have : w.heap[0]? = none := Array.getElem?_eq_none (by omega)
    simp [World.cell?, this] at h
theorem MaxAt.keep {w w' : World} (h : MaxAt w) (hb : w'.heap[0]? = w.heap[0]?) : MaxAt w' := by
  obtain ⟨m, h⟩ := h
  exact ⟨m, by rw [World.cell?_of_block (w := w) hb, h]⟩
theorem MaxAt.below {w w' : World} (h : MaxAt w) (hb : Below w.heap.size w w') : MaxAt w' := h.keep (hb.block 0 h.pos)
/-- A row of texts in memory, behind a place. -/
def StrRow (B : Nat) (w : World) (v : Value) (xs : List ByteArray) : Prop :=
  ∃ g cap, v = .slice (some ⟨g, 0, none⟩) xs.length cap ∧ xs.length ≤ cap ∧ B ≤ g ∧ g < w.heap.size ∧ ∀ j x, xs[j]? = some x → w.cell? ⟨g, j, none⟩ = some (.string x)
theorem StrRow.below {B : Nat} {w w' : World} {v : Value} {xs : List ByteArray} (h : StrRow B w v xs) (hb : Below w.heap.size w w') : StrRow B w' v xs := by
  obtain ⟨g, cap, e, h1, h2, h3, h4⟩ := h
  exact ⟨g, cap, e, h1, h2, Nat.lt_of_lt_of_le h3 hb.size, fun j x hj => by rw [hb.cell (p := ⟨g, j, none⟩) h3]; exact h4 j x hj⟩
theorem clone_any (s : ByteArray) (w : World) (hs : s.size ≤ 281474976710656) : Calls Tryd.prog 13 #[.string s] w fun e w' => e = .returned (.string s) ∧ Below w.heap.size w w' := by
  have H := hideIt (fun w => Tryd.stringslite_Clone s w hs)
  go_enter Tryd.func13, Tryd.ntmps13
  go_wp2_with (first | (go_at_call 23; refine (H.out _).mono ?_; rintro e w1 ⟨rfl, hb⟩))
  go_ret
  exact ⟨rfl, hb⟩
/-- What Split tells: names that are in memory, or nothing. -/
def SplitTo (w : World) (p : ByteArray) (e : Ending) (w' : World) : Prop :=
  ∃ v, e = .returned (.tuple #[v, .int .i64 (splE p)]) ∧ Below w.heap.size w w' ∧ (¬ splE p = 0 → v = .slice none 0 0) ∧ (splE p = 0 → StrRow w.heap.size w' v (pieces p))
theorem take_all_next {α : Type} (f : α → Bool) (l : List α) (k : Nat) (h : k < l.length) : (l.take (k + 1)).all f = ((l.take k).all f && f l[k]) := by
  rw [List.take_add_one, List.getElem?_eq_getElem h, List.all_append]
  simp only [Option.toList, List.all_cons, List.all_nil, Bool.and_true]
theorem all_false {α : Type} (f : α → Bool) (l : List α) (k : Nat) (h : k < l.length) (hf : f l[k] = false) : l.all f = false := by
  rw [List.all_eq_false]
  exact ⟨l[k], List.getElem_mem h, by simp [hf]⟩
set_option maxHeartbeats 1600000 in
set_option maxRecDepth 100000 in
theorem split_any (p : ByteArray) (w : World) (hm : MaxAt w) (hs : p.size ≤ 1000000) :
    Calls Tryd.prog 5 #[.string p] w fun e w' => SplitTo w p e w' := by
  have hpl := pieces_len p
  have hps := pieces_size p
  obtain ⟨m, hmm⟩ := hm
  have HC := hideIt (Tryd.strings_Count_any p ⟨#[47]⟩ m w (by omega) hmm (by decide))
  have HS := hideIt (Tryd.strings_Split p ⟨#[47]⟩ m w (by omega) hmm (by decide))
  rw [split_pieces] at HS
  obtain ⟨q, hq⟩ : ∃ q, Lib.countB p ⟨#[47]⟩ = q := ⟨_, rfl⟩
  rw [hq] at HC HS hpl
  have hqn : q ≤ 1000000 := by have := Lib.countB_le ⟨#[47]⟩ (by decide) p.size p (Nat.le_refl _); omega
  clear hmm
  have HE : Hid (splE p = if 64 < (pieces p).length then 3 else if (pieces p).all Lb.nameB = true then 0 else 50) := rfl
  have HT : Hid (∀ e w', SplitTo w p e w' ↔ ∃ v, e = .returned (.tuple #[v, .int .i64 (splE p)]) ∧ Below w.heap.size w w' ∧ (¬ splE p = 0 → v = .slice none 0 0) ∧ (splE p = 0 → StrRow w.heap.size w' v (pieces p))) := fun _ _ => Iff.rfl
  by_cases h64 : 64 ≤ q
  · have c1 : decide ((64 : Int) ≤ (q : Int)) = true := by simp; omega
    have HE' : Hid (splE p = 3) := hideIt (by rw [HE.out, if_pos (by omega)])
    clear HE hpl hps HS hq
    go_enter Tryd.func5, Tryd.ntmps5
    go_wp2_with (first | (go_at_call 10; refine HC.out.mono ?_; rintro e wx ⟨rfl, hwx⟩; obtain rfl := hwx.symm))
    go_ret2
    exact (HT.out _ _).2 ⟨_, by rw [HE'.out]; rfl, Below.refl _ _, fun _ => rfl, fun h => by rw [HE'.out] at h; omega⟩
  · have c1 : decide ((64 : Int) ≤ (q : Int)) = false := by simp; omega
    have HE' : Hid (splE p = if (pieces p).all Lb.nameB = true then 0 else 50) := hideIt (by rw [HE.out, if_neg (by omega)])
    clear HE
    obtain ⟨l, hll⟩ : ∃ l, pieces p = l := ⟨_, rfl⟩
    rw [hll] at HS hpl hps HT HE'
    obtain ⟨w1, hw1⟩ : ∃ w1, w.alloc (.cells (l.map Value.string).toArray 9) = w1 := ⟨_, rfl⟩
    rw [hw1] at HS
    have hb1 : Below w.heap.size w w1 := by rw [← hw1]; exact (Below.refl _ _).alloc (Nat.le_refl _) _
    have hrow : w1.heap[w.heap.size]? = some (.cells (l.map Value.string).toArray 9) := by rw [← hw1]; exact alloc_at rfl
    have hsz1 : w1.heap.size = w.heap.size + 1 := by rw [← hw1]; simp
    clear hw1 hq hll
    obtain ⟨N, hN⟩ : ∃ N, w.heap.size = N := ⟨_, rfl⟩
    rw [hN] at HS hrow hsz1 hb1 HT
    obtain ⟨Q, hQ⟩ : ∃ Q, q + 1 = Q := ⟨_, rfl⟩
    have hqi : (q : Int) + 1 = ((Q : Nat) : Int) := by omega
    rw [hQ] at HS hpl
    have hQ64 : Q ≤ 64 := by omega
    clear hQ
    have HB1 := hideIt hb1
    have HROW := hideIt hrow
    clear hb1 hrow
    go_enter Tryd.func5, Tryd.ntmps5
    go_wp2_with (first | (go_at_call 10; refine HC.out.mono ?_; rintro e wx ⟨rfl, hwx⟩; obtain rfl := hwx.symm) | (go_at_call 11; refine HS.out.mono ?_; rintro e w2 ⟨rfl, hw2⟩; obtain rfl := hw2))
    go_loopw [5, 6, 14] (fun _ _ t wr => ∃ k : Nat, t = .int .i64 k ∧ k ≤ Q ∧ (l.take k).all Lb.nameB = true ∧ Below N w wr ∧ N < wr.heap.size ∧ wr.heap[N]? = some (.cells (l.map Value.string).toArray 9)) (fun _ _ t _ => Q - (intOf t).toNat)
    case atStart => exact ⟨0, rfl, by omega, by simp, HB1.out, by omega, HROW.out⟩
    case round =>
      obtain ⟨k, rfl, hk, hall, hbr, hNr, hrw⟩ := hrel
      have HB := hideIt hbr
      have HL := hideIt hall
      have HW := hideIt hrw
      by_cases hlt : k < Q
      · have d1 : decide ((k : Int) < (Q : Int)) = true := by simp; omega
        have hkl : k < l.length := by omega
        obtain ⟨s, hse⟩ : ∃ s, l[k] = s := ⟨_, rfl⟩
        have hcell : wr.cell? ⟨N, k, none⟩ = some (.string s) := by simp [World.cell?, hrw, hkl, hse]
        have b0 : (0 : Int) ≤ (k : Int) := by omega
        have b1 : (k : Int) < (Q : Int) := by omega
        have hsz : s.size ≤ p.size := hps s (by rw [← hse]; exact List.getElem_mem hkl)
        have HN := hideIt (fun w => name_any s w)
        have HK := hideIt (fun w => clone_any s w (by omega))
        have HX := hideIt (take_all_next Lb.nameB l k hkl)
        have HF := hideIt (all_false Lb.nameB l k hkl)
        have HSET : Hid ((l.map Value.string).toArray.setIfInBounds k (.string s) = (l.map Value.string).toArray) := hideIt (by
          rw [← hse]
          simp [List.setIfInBounds_toArray, ← List.map_set])
        rw [hse] at HX HF
        have H4 : Hid (∀ w3 w4 : World, Below wr.heap.size wr w3 → Below w3.heap.size w3 w4 → w4.cell? ⟨N, k, none⟩ = some (.string s) ∧ w4.frozen? ⟨N, k, none⟩ = false ∧ w4.heap[N]? = some (.cells (l.map Value.string).toArray 9)) := hideIt (fun w3 w4 h3 h4 => by
          have e : w4.heap[N]? = some (.cells (l.map Value.string).toArray 9) := by rw [(below2 h3 h4).block N hNr, hrw]
          exact ⟨by simp [World.cell?, e, hkl, hse], by simp [World.frozen?, e], e⟩)
        generalize Lb.nameB s = b at *
        clear hall hbr hrw hse hps hpl
        cases b
        · go_wp2_with (first | (go_at_call 12; refine (HN.out _).mono ?_; rintro e w3 ⟨rfl, hb3⟩))
          go_ret2
          have e50 : splE p = 50 := by rw [HE'.out, HF.out (by first | rfl | trivial)]; rfl
          exact (HT.out _ _).2 ⟨_, by rw [e50]; rfl, below_step HB.out (by omega) hb3, fun _ => rfl, fun h => by rw [e50] at h; omega⟩
        · go_wp2_with (first | (go_at_call 12; refine (HN.out _).mono ?_; rintro e w3 ⟨rfl, hb3⟩) | (go_at_call 13; refine (HK.out _).mono ?_; rintro e w4 ⟨rfl, hb4⟩; obtain ⟨q1, q2, q3⟩ := H4.out _ _ hb3 hb4; have HQ3 := hideIt q3; clear q3))
          go_roundw
          case rel =>
            refine ⟨k + 1, by go_num, by omega, by rw [HX.out, HL.out]; rfl, ?_, ?_, ?_⟩
            · exact (below_step (below_step HB.out (by omega) hb3) (by omega) hb4).setCell (by simp) _
            · have := hb3.size; have := hb4.size; simp; omega
            · rw [heap_setCell_same _ N k _ 9 _ HQ3.out, HSET.out]
          case measure => simp [intOf]; omega
      · have d1 : decide ((k : Int) < (Q : Int)) = false := by simp; omega
        have HA : Hid (l.all Lb.nameB = true) := hideIt (by rw [List.take_of_length_le (by omega)] at hall; exact hall)
        clear hall hbr hrw
        go_wp2
        go_ret2
        have e0 : splE p = 0 := by rw [HE'.out, HA.out]; rfl
        refine (HT.out _ _).2 ⟨_, by rw [e0]; rfl, HB.out, fun h => absurd e0 h, fun _ => ⟨N, Q, by rw [hpl]; rfl, by omega, Nat.le_refl _, hNr, fun j x hj => ?_⟩⟩
        have hjl : j < l.length := (List.getElem?_eq_some_iff.1 hj).1
        have hjx : l[j] = x := (List.getElem?_eq_some_iff.1 hj).2
        simp [World.cell?, HW.out, hjl, hjx]
theorem join_any (v : Value) (p : ByteArray) (B : Nat) (w : World) (h : StrRow B w v (pieces p)) (hs : p.size ≤ 1000000) :
    Calls Tryd.prog 9 #[v] w fun e w' => e = .returned (.string p) ∧ Below w.heap.size w w' := by
  obtain ⟨g, cap, rfl, h1, h2, h3, h4⟩ := h
  have hj := pieces_join p
  have hl : p.data.toList.length = p.size := str_len p
  have hf := pieces_few p
  have H := hideIt (Tryd.strings_Join g 0 cap (pieces p) ⟨#[47]⟩ w (fun j x hjx => by rw [Nat.zero_add]; exact h4 j x hjx) h3 (by omega) h1 (by show (Lib.join _ [47]).length ≤ _; rw [hj, hl]; omega))
  have e : (⟨(Lib.join ((pieces p).map (·.data.toList)) (ByteArray.mk #[47]).data.toList).toArray⟩ : ByteArray) = p := by
    show (⟨(Lib.join ((pieces p).map (·.data.toList)) [47]).toArray⟩ : ByteArray) = p
    rw [hj]
  rw [e] at H
  clear e hj hl
  obtain ⟨n, hn⟩ : ∃ n, (pieces p).length = n := ⟨_, rfl⟩
  rw [hn] at H ⊢
  have HK := hideIt (fun w => clone_any p w (by omega))
  clear h4 h1 hn
  go_enter Tryd.func9, Tryd.ntmps9
  go_wp2_with (first | (go_at_call 17; refine H.out.mono ?_; rintro e w1 ⟨rfl, hb1⟩) | (go_at_call 13; refine (HK.out _).mono ?_; rintro e w2 ⟨rfl, hb2⟩))
  go_ret
  exact ⟨rfl, below2 hb1 hb2⟩
end Go.Proofs.YtgbmfhbodfmpbaaDoor
