/- Which texts may be paths, as the program says it, walked. -/
import Derived.Test.YtefefgiooknpkaaGreatDoorRefp
import Derived.Test.YtefefgiooknpkaaGreatDoorShelf
namespace Go.Proofs.YtefefgiooknpkaaGreatDoor
open Go.RowKit Go.Shelf
theorem strange_of {x : Nat} {a b d e f g h : Bool} (H : Cmp (x : Int) a b d e f g h) : strange x = !(((((a && b) || (d && e)) || f) || g) || h) := by
  obtain ⟨h1, h2, h3, h4, h5, h6, h7⟩ := H
  subst h1 h2 h3 h4 h5 h6 h7
  unfold strange
  have e1 : ∀ n : Nat, ((x : Int) == (n : Int)) = decide (x = n) := by intro n; by_cases hh : x = n <;> simp [hh] <;> omega
  have e46 := e1 46
  have e45 := e1 45
  have e95 := e1 95
  simp only [Int.cast_ofNat_Int] at e46 e45 e95
  rw [e46, e45, e95]
  congr 1
  congr 1
  congr 1
  congr 1
  congr 1
  · congr 1 <;> (apply decide_eq_decide.2; omega)
  · congr 1 <;> (apply decide_eq_decide.2; omega)
set_option maxHeartbeats 800000 in
theorem strange_any (x : Nat) (w : World) : Calls Tryz.prog 93 #[.int .i32 (x : Int)] w fun e w' => e = .returned (.bool (strange x)) ∧ w' = w := by
  rcases cmp_cases (x : Int) with H | H | H | H | H | H | H | H
  all_goals (have HB := hideIt (strange_of H); obtain ⟨q1, q2, q3, q4, q5, q6, q7⟩ := H; have s5 : ((x : Int) != 46) = !((x : Int) == 46) := rfl; have s6 : ((x : Int) != 45) = !((x : Int) == 45) := rfl; have s7 : ((x : Int) != 95) = !((x : Int) == 95) := rfl; rw [q5] at s5; rw [q6] at s6; rw [q7] at s7; simp only [Bool.not_false, Bool.not_true] at s5 s6 s7)
  all_goals go_enter Tryz.func93, Tryz.ntmps93
  all_goals go_wp2
  all_goals go_ret
  all_goals exact ⟨by rw [HB.out]; rfl, rfl⟩
theorem strange_pays (w : World) : PredGrows Tryz.prog 93 #[] strange w := fun W x _ _ =>
  (strange_any x W).mono fun _ _ ⟨h1, h2⟩ => ⟨h1, h2 ▸ Below.refl _ _⟩
theorem strange_enters : ∀ args w, (callFunc 93 args).run Tryz.prog w = .ok (.enter 93 args) w := enters_of Tryz.func93 (by kernel_rfl) rfl
theorem contains_any (s : ByteArray) (w : World) : Calls Tryz.prog 95 #[.string s, .func (.func 93) #[] #[]] w fun e w' => e = .returned (.bool (!(s.data.toList.all okB))) ∧ Below w.heap.size w w' := by
  have h := Tryz.strings_ContainsFunc_grows 93 #[] strange_enters strange s w (strange_pays w)
  rw [contains_strange] at h
  exact h
/-- The one word of the library's that a cut of texts reads is a number. -/
def MaxAt (w : World) : Prop := ∃ m, w.cell? ⟨0, 0, none⟩ = some (.int .i64 m)
theorem MaxAt.pos {w : World} (h : MaxAt w) : 0 < w.heap.size := by
  obtain ⟨m, h⟩ := h
  by_cases hz : 0 < w.heap.size
  · exact hz
  · have : w.heap[0]? = none := Array.getElem?_eq_none (by omega)
    simp [World.cell?, this] at h
theorem MaxAt.keep {w w' : World} (h : MaxAt w) (hb : w'.heap[0]? = w.heap[0]?) : MaxAt w' := by
  obtain ⟨m, h⟩ := h
  exact ⟨m, by rw [World.cell?_of_block (w := w) hb, h]⟩
theorem MaxAt.below {w w' : World} (h : MaxAt w) (hb : Below w.heap.size w w') : MaxAt w' := h.keep (hb.block 0 h.pos)
theorem pieces_len (p : ByteArray) : (pieces p).length = Lib.countB p ⟨#[47]⟩ + 1 := Lib.splitB_all ⟨#[47]⟩ (by decide) 0 _ p rfl
theorem take_all_next {α : Type} (f : α → Bool) (l : List α) (k : Nat) (h : k < l.length) : (l.take (k + 1)).all f = ((l.take k).all f && f l[k]) := by
  rw [List.take_add_one, List.getElem?_eq_getElem h, List.all_append]
  simp only [Option.toList, List.all_cons, List.all_nil, Bool.and_true]
theorem all_false {α : Type} (f : α → Bool) (l : List α) (k : Nat) (h : k < l.length) (hf : f l[k] = false) : l.all f = false := by
  rw [List.all_eq_false]
  exact ⟨l[k], List.getElem_mem h, by simp [hf]⟩
set_option maxHeartbeats 1600000 in
set_option maxRecDepth 100000 in
theorem path_any (p : ByteArray) (w : World) (hm : MaxAt w) (hs : p.size ≤ 140737488355328) :
    Calls Tryz.prog 76 #[.string p] w fun e w' => e = .returned (.bool (pathL p.data.toList)) ∧ Below w.heap.size w w' := by
  obtain ⟨n, hn⟩ : ∃ n, p.size = n := ⟨_, rfl⟩
  have hl : p.data.toList.length = n := by rw [str_len, hn]
  have hni : (p.size : Int) = (n : Int) := by rw [hn]
  by_cases h200 : n ≤ 200
  · have c1 : ¬ (200 : Int) < (n : Int) := by omega
    have c2 : decide ((200 : Int) < (n : Int)) = false := decide_eq_false c1
    obtain ⟨m, hmm⟩ := hm
    have CS := hideIt (Tryz.strings_Split p ⟨#[47]⟩ m w (by omega) hmm (by decide))
    obtain ⟨q, hq⟩ : ∃ q, Lib.countB p ⟨#[47]⟩ = q := ⟨_, rfl⟩
    have hpl := pieces_len p
    have hpa := pieces_all p
    have HQ : q ≤ n := by have := Lib.countB_le ⟨#[47]⟩ (by decide) p.size p (Nat.le_refl _); omega
    have ep : Lib.splitB ⟨#[47]⟩ 0 (Lib.countB p ⟨#[47]⟩) p = pieces p := rfl
    rw [ep, hq] at CS
    rw [hq] at hpl
    obtain ⟨l, hll⟩ : ∃ l, pieces p = l := ⟨_, rfl⟩
    rw [hll] at CS hpl hpa
    obtain ⟨w1, hw1⟩ : ∃ w1, w.alloc (.cells (l.map Value.string).toArray 9) = w1 := ⟨_, rfl⟩
    rw [hw1] at CS
    have hb1 : Below w.heap.size w w1 := by rw [← hw1]; exact (Below.refl _ _).alloc (Nat.le_refl _) _
    have hrow : w1.heap[w.heap.size]? = some (.cells (l.map Value.string).toArray 9) := by rw [← hw1]; exact alloc_at rfl
    have hsz1 : w1.heap.size = w.heap.size + 1 := by rw [← hw1]; simp
    clear hw1 hq ep hll hmm
    obtain ⟨N, hN⟩ : ∃ N, w.heap.size = N := ⟨_, rfl⟩
    rw [hN] at CS hrow hsz1
    have HP := hideIt (show pathL p.data.toList = scan [] p.data.toList by rw [pathL, hl]; simp [h200])
    have hqi : (q : Int) + 1 = ((q + 1 : Nat) : Int) := by omega
    obtain ⟨Q, hQ⟩ : ∃ Q, q + 1 = Q := ⟨_, rfl⟩
    rw [hQ] at CS hpl hqi
    go_enter Tryz.func76, Tryz.ntmps76
    go_wp2_with (first | (go_at_call 94; refine CS.out.mono ?_; rintro e w2 ⟨rfl, rfl⟩))
    go_loopw [12] (fun t wr => ∃ k : Nat, t = .int .i64 k ∧ k ≤ Q ∧ (l.take k).all (fun s => okName s.data.toList) = true ∧ Below w2.heap.size w2 wr) (fun t _ => Q - (intOf t).toNat)
    case atStart => exact ⟨0, rfl, by omega, by simp, Below.refl _ _⟩
    case round =>
      obtain ⟨k, rfl, hk, hall, hbr⟩ := hrel
      by_cases hlt : k < Q
      · have d1 : decide ((k : Int) < (Q : Int)) = true := by simp; omega
        have hkl : k < l.length := by omega
        obtain ⟨s, hse⟩ : ∃ s, l[k] = s := ⟨_, rfl⟩
        have hcell : wr.cell? ⟨N, k, none⟩ = some (.string s) := by
          rw [hbr.cell (p := ⟨N, k, none⟩) (by simp; omega)]
          simp [World.cell?, hrow, hkl, hse]
        have b0 : (0 : Int) ≤ (k : Int) := by omega
        have b1 : (k : Int) < (Q : Int) := by omega
        obtain ⟨e1, e2, e3, e4⟩ := seg_cmp s
        have HS := hideIt (okSeg_of s.data.toList (rfl) (rfl) (rfl))
        have HC := hideIt (contains_any s)
        have HT := hideIt (take_all_next (fun s : ByteArray => okName s.data.toList) l k hkl)
        have HF := hideIt (all_false (fun s : ByteArray => okName s.data.toList) l k hkl)
        have HA := hideIt hpa
        have HL := hideIt hall
        have HO : Hid (okName s.data.toList = (okSeg s.data.toList && s.data.toList.all okB)) := hideIt rfl
        rw [hse] at HT HF
        have HB := hideIt hbr
        have HB1 := hideIt hb1
        generalize (s.data.toList == []) = x1 at *
        generalize (s.data.toList == [46]) = x2 at *
        generalize (s.data.toList == [46, 46]) = x3 at *
        generalize s.data.toList.all okB = x4 at *
        clear hse hall hpa hbr hrow hb1
        cases x1 <;> cases x2 <;> cases x3
        all_goals first
          | (go_wp2; go_ret; exact ⟨by rw [HP.out, ← HA.out, HF.out (by rw [HO.out, HS.out]; simp)]; try rfl, below2 HB1.out HB.out⟩)
          | cases x4
        · go_wp2_with (first | (go_at_call 95; refine (HC.out _).mono ?_; rintro e w3 ⟨rfl, hb3⟩))
          go_ret
          exact ⟨by rw [HP.out, ← HA.out, HF.out (by rw [HO.out]; simp)]; try rfl, below2 (below2 HB1.out HB.out) hb3⟩
        · go_wp2_with (first | (go_at_call 95; refine (HC.out _).mono ?_; rintro e w3 ⟨rfl, hb3⟩))
          go_roundw
          case rel => exact ⟨k + 1, by go_num, by omega, by rw [HT.out, HL.out, HO.out, HS.out]; rfl, below2 HB.out hb3⟩
          case measure => simp [intOf]; omega
      · have d1 : decide ((k : Int) < (Q : Int)) = false := by simp; omega
        have HL : Hid (l.all (fun s => okName s.data.toList) = true) := hideIt (by rw [List.take_of_length_le (by omega)] at hall; exact hall)
        have HA := hideIt hpa
        have HB := hideIt hbr
        have HB1 := hideIt hb1
        clear hall hpa hbr hb1
        go_wp2
        go_ret
        exact ⟨by rw [HP.out, ← HA.out, HL.out]; try rfl, below2 HB1.out HB.out⟩
  · have c1 : (200 : Int) < (n : Int) := by omega
    have c2 : decide ((200 : Int) < (n : Int)) = true := decide_eq_true c1
    go_enter Tryz.func76, Tryz.ntmps76
    go_wp2
    go_ret
    exact ⟨by rw [pathL, hl]; simp [h200], Below.refl _ _⟩
end Go.Proofs.YtefefgiooknpkaaGreatDoor
