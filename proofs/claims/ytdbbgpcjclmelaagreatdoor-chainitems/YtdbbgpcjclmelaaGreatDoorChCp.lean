/- Chains: an item's bytes, its own or out of its base's: walked. -/
import Derived.Test.YtdbbgpcjclmelaaGreatDoorChCo
import Derived.BigQuiet
namespace Go.Proofs.YtdbbgpcjclmelaaGreatDoor.Ch
open Cb Go.RowKit Go.Shelf Go.Maps
section
variable {w W0 W1 X : World} {A : Ad} {v : Value} {raws : List ByteArray} {its : List Im} {par : Nat → Option Nat} {dp : Nat → Nat} {d : List Nat}
def RawTo (w W0 : World) (A : Ad) (raws : List ByteArray) (its : List Im) (dp : Nat → Nat) (d : List Nat) (i : Nat) (r : ByteArray) (e : Ending) (w' : World) : Prop := e = .returned (.tuple #[.string r, .int .i64 0]) ∧ SM w W0 A raws its dp d d (d ++ [i]) d w'
theorem item_cells (hC : Cx w W0 W1 A v raws its par dp) (hS : SM w W0 A raws its dp d d d d X) {i : Nat} {x : Im} (hx : its[i]? = some x) : ∃ b o c, v = .slice (some ⟨b, o, none⟩) raws.length c ∧ raws.length ≤ c ∧ c ≤ 9223372036854775807 ∧ X.cell? ⟨b, o + i * 3, none⟩ = some (.string x.b) ∧ X.cell? ⟨b, o + i * 3 + 1, none⟩ = some (.string x.d) ∧ X.cell? ⟨b, o + i * 3 + 2, none⟩ = some (.int .i64 x.pl) := by
  obtain ⟨_, a, c, e, hle, ⟨hcm, _⟩, hrow⟩ := hS.items hC.rows
  have hi : i < its.length := (List.getElem?_eq_some_iff.1 hx).1
  obtain ⟨b, o, rfl, hcells⟩ := hrow (by omega)
  obtain ⟨k0, k1, k2⟩ := imsV_at _ _ _ hx
  have hl := hC.fst.len
  rw [hl] at e hle
  unfold maxLen at hcm
  exact ⟨b, o, c, e, hle, hcm, hcells.2 _ _ k0, by rw [Nat.add_assoc]; exact hcells.2 _ _ k1, by rw [Nat.add_assoc]; exact hcells.2 _ _ k2⟩
set_option maxHeartbeats 800000 in
set_option maxRecDepth 100000 in
theorem rawOf_whole (hC : Cx w W0 W1 A v raws its par dp) (hS : SM w W0 A raws its dp d d d d X) {i : Nat} {r : ByteArray} (hr : raws[i]? = some r) (hp : par i = none) :
    Calls Tryz.prog 59 #[.pointer (some ⟨A.bx, 0, none⟩), .int .i64 (i : Int)] X fun e w' => RawTo w W0 A raws its dp d i r e w' := by
  have hi : i < raws.length := (List.getElem?_eq_some_iff.1 hr).1
  obtain ⟨x, _, hx, _⟩ := hC.fst.get hi
  obtain ⟨e1, e2⟩ := hC.fst.whole i x r hx hr hp
  have HF := hideIt (fun Y (hb : Below X.heap.size X Y) => (hS.after hb).far0 (i := i) (hC.dp0 i hp))
  obtain ⟨b, o, c, rfl, hle, hcm, c0, c1, c2⟩ := item_cells hC hS hx
  obtain ⟨q0, _, _, _, _, _⟩ := box_cells (hS.box hC.ok hC.le hC.bx)
  have hsz := hC.sz i r hr
  have HCL := hideIt (fun w => Ob.clone_any r w (by omega))
  have hfew := hC.few
  rw [e1] at c0
  rw [e2] at c1
  obtain ⟨n, hn⟩ : ∃ n, raws.length = n := ⟨_, rfl⟩
  rw [hn] at hi hle q0 hfew
  have i1 : (i : Int) < (n : Int) := by omega
  have i2 : decide ((i : Int) < (n : Int)) = true := decide_eq_true i1
  have HB0 : Hid (Below X.heap.size X (X.alloc (.cells #[.string ⟨#[]⟩, .string r, .int .i64 x.pl] 32))) := hideIt ((Below.refl _ _).alloc (Nat.le_refl _) _)
  clear hC hS hr hx e1 e2 hp hn
  go_enter Tryz.func59, Tryz.ntmps59
  go_wp2_with (first | (go_at_call 17; refine (HCL.out _).mono ?_; rintro e w1 ⟨rfl, hb1⟩; have F := hideIt (HF.out _ (HB0.out.trans (hb1.mono HB0.out.size))); clear hb1))
  go_ret2
  exact ⟨rfl, F.out⟩
set_option maxHeartbeats 1600000 in
set_option maxRecDepth 100000 in
theorem rawOf_made (hC : Cx w W0 W1 A v raws its par dp) (hS : SM w W0 A raws its dp d d d d X) {i k : Nat} {r : ByteArray} (hr : raws[i]? = some r) (hp : par i = some k) (hk : k ∈ d) (h12 : dp i ≤ 12) :
    Calls Tryz.prog 59 #[.pointer (some ⟨A.bx, 0, none⟩), .int .i64 (i : Int)] X fun e w' => RawTo w W0 A raws its dp d i r e w' := by
  have hi : i < raws.length := (List.getElem?_eq_some_iff.1 hr).1
  have hki := hC.fst.lt i k hp
  obtain ⟨x, _, hx, _⟩ := hC.fst.get hi
  obtain ⟨_, bk, _, hbk⟩ := hC.fst.get (i := k) (by omega)
  obtain ⟨e1, e2⟩ := hC.fst.made i k x r bk hx hr hbk hp
  have hdp := hC.dp1 i k hp
  obtain ⟨b, o, c, rfl, hle, hcm, c0, c1, c2⟩ := item_cells hC hS hx
  obtain ⟨p0, _, _, _, _, _⟩ := box_cells (hS.box hC.ok hC.le hC.bx)
  have hb0 : Below X.heap.size X (X.alloc (.cells #[.string (shaB bk), .string (makeB bk r), .int .i64 x.pl] 32)) := (Below.refl _ _).alloc (Nat.le_refl _) _
  obtain ⟨Xa, hXa⟩ : ∃ Xa, X.alloc (.cells #[.string (shaB bk), .string (makeB bk r), .int .i64 x.pl] 32) = Xa := ⟨_, rfl⟩
  have n0 : Xa.cell? ⟨X.heap.size, 0, none⟩ = some (.string (shaB bk)) := by rw [← hXa]; exact cellAt (alloc_at rfl) rfl
  have n1 : Xa.cell? ⟨X.heap.size, 1, none⟩ = some (.string (makeB bk r)) := by rw [← hXa]; exact cellAt (alloc_at rfl) rfl
  rw [hXa] at hb0
  have hSa := hS.after hb0
  obtain ⟨q0, q1, q2, q3, q4, q5⟩ := box_cells (hSa.box hC.ok hC.le hC.bx)
  obtain ⟨a1, a3, _, _, f1, f2, f3⟩ := hSa.at (i := k) (by omega)
  obtain ⟨_, g3, _, _, _, _, _⟩ := hSa.at hi
  rw [if_pos hk] at a1 a3
  have ek : raws.getD k ⟨#[]⟩ = bk := by rw [List.getD, hbk]; rfl
  rw [ek] at a1
  have hsi := hC.sz i r hr
  have hsk := hC.sz k bk hbk
  have hfew := hC.few
  have HAP := hideIt (fun w => apply_c bk r w hsk hsi)
  have hlk := solved_get hSa hbk hk
  have HFB : Hid (∀ q : Nat, SM w W0 A raws its dp d d (d ++ [i]) d ((Xa.drewN q).setCell ⟨A.b3, i, none⟩ (.int .i64 (dp i : Int)))) := hideIt (fun q => (hSa.after (below_drewN _ q)).far hC.ok hi)
  have HFC : Hid (∀ Y, SM w W0 A raws its dp d d (d ++ [i]) d Y → Y.cell? ⟨A.bx, 3, none⟩ = some (.slice (some ⟨A.b3, 0, none⟩) raws.length raws.length) ∧ Y.cell? ⟨A.b3, i, none⟩ = some (.int .i64 (dp i : Int)) ∧ Y.cell? ⟨A.bx, 1, none⟩ = some (.slice (some ⟨A.b1, 0, none⟩) raws.length raws.length) ∧ Y.cell? ⟨A.b1, k, none⟩ = some (.string bk)) := hideIt (fun Y h => by
    obtain ⟨_, z1, _, z3, _, _⟩ := box_cells (h.box hC.ok hC.le hC.bx)
    obtain ⟨y1, _, _, _, _, _, _⟩ := h.at (i := k) (by omega)
    obtain ⟨_, y3, _, _, _, _, _⟩ := h.at hi
    rw [if_pos hk, ek] at y1
    rw [if_pos (by simp)] at y3
    exact ⟨z3, y3, z1, y1⟩)
  have HN1 : Hid (∀ q, ((Xa.drewN q).setCell ⟨A.b3, i, none⟩ (.int .i64 (dp i : Int))).cell? ⟨X.heap.size, 1, none⟩ = some (.string (makeB bk r))) := hideIt (fun q => by
    rw [← n1]
    refine World.cell?_of_block (a := ⟨X.heap.size, 1, none⟩) ?_
    rw [other_cell _ (by have := hC.ok.lt; have := hC.le; have := hS.z; show X.heap.size ≠ A.b3; omega)]
    rfl)
  have hne : ¬ (shaB bk).toList = [] := fun e => shaB_ne bk (bytes_ext (by rw [ByteArray.toList_eq] at e; exact e))
  have hne2 : ((shaB bk).toList == []) = false := beq_eq_false_iff_ne.2 hne
  rw [e1] at c0
  rw [e2] at c1
  obtain ⟨n, hn⟩ : ∃ n, raws.length = n := ⟨_, rfl⟩
  rw [hn] at hi hle p0 q0 q1 q2 q3 hfew HFC
  have hkn : k < n := by omega
  have i1 : (i : Int) < (n : Int) := by omega
  have i2 : decide ((i : Int) < (n : Int)) = true := decide_eq_true i1
  have k1 : (k : Int) < (n : Int) := by omega
  have k2 : decide ((k : Int) < (n : Int)) = true := decide_eq_true k1
  have d1 : (dp k : Int) + 1 = (dp i : Int) := by omega
  have d2 : ¬ (12 : Int) < (dp i : Int) := by omega
  have d3 : decide ((12 : Int) < (dp i : Int)) = false := decide_eq_false d2
  have d4 : (dp i : Int) ≤ 12 := by omega
  have d5 : (dp k : Int) ≤ 12 := by omega
  generalize shaB bk = S at c0 hlk hne hne2 n0 hXa
  generalize makeB bk r = M at c1 HAP n1 hXa HN1
  clear hC hS hSa hr hx e1 e2 hp hn hk hbk ek hb0 hdp h12 hki
  go_enter Tryz.func59, Tryz.ntmps59
  go_wp2_with fail
  go_quiet (fail)
  go_wp2_with fail
  go_region
  have hFN := HFB.out (nq + 1)
  have m1 := HN1.out (nq + 1)
  generalize (Xa.drewN (nq + 1)).setCell ⟨A.b3, i, none⟩ (.int .i64 (dp i : Int)) = Xb at hFN m1 ⊢
  obtain ⟨y0, y1, y2, y3⟩ := HFC.out Xb hFN
  have HFN := hideIt hFN
  clear hFN hXa hlk n0 n1 p0 q0 q1 q2 q3 q4 q5 a1 a3 g3 f1 f2 f3 c0 c1 c2
  go_wp2_with fail
  go_region_with (first | (go_at_call 76; refine (HAP.out _).mono ?_; rintro e w5 ⟨rfl, hb5⟩; have FN := hideIt (HFN.out.after (Y := w5) (by first | exact hb5 | exact (below_drewN _ 1).trans (hb5.mono (Nat.le_refl _)))); clear hb5))
  all_goals go_wp2
  all_goals go_ret2
  all_goals exact ⟨rfl, FN.out⟩
set_option maxHeartbeats 1600000 in
set_option maxRecDepth 100000 in
theorem rawOf_far (hC : Cx w W0 W1 A v raws its par dp) (hS : SM w W0 A raws its dp d d d d X) {i k : Nat} {r : ByteArray} (hr : raws[i]? = some r) (hp : par i = some k) (hk : k ∈ d) (hk12 : dp k ≤ 12) (h12 : 12 < dp i) :
    Calls Tryz.prog 59 #[.pointer (some ⟨A.bx, 0, none⟩), .int .i64 (i : Int)] X fun e w' => e = .returned (.tuple #[.string ⟨#[]⟩, .int .i64 120]) ∧ Below w.heap.size w w' := by
  have hi : i < raws.length := (List.getElem?_eq_some_iff.1 hr).1
  have hki := hC.fst.lt i k hp
  obtain ⟨x, _, hx, _⟩ := hC.fst.get hi
  obtain ⟨_, bk, _, hbk⟩ := hC.fst.get (i := k) (by omega)
  obtain ⟨e1, e2⟩ := hC.fst.made i k x r bk hx hr hbk hp
  have hdp := hC.dp1 i k hp
  obtain ⟨b, o, c, rfl, hle, hcm, c0, c1, c2⟩ := item_cells hC hS hx
  obtain ⟨p0, _, _, _, _, _⟩ := box_cells (hS.box hC.ok hC.le hC.bx)
  have hb0 : Below X.heap.size X (X.alloc (.cells #[.string (shaB bk), .string (makeB bk r), .int .i64 x.pl] 32)) := (Below.refl _ _).alloc (Nat.le_refl _) _
  obtain ⟨Xa, hXa⟩ : ∃ Xa, X.alloc (.cells #[.string (shaB bk), .string (makeB bk r), .int .i64 x.pl] 32) = Xa := ⟨_, rfl⟩
  have n0 : Xa.cell? ⟨X.heap.size, 0, none⟩ = some (.string (shaB bk)) := by rw [← hXa]; exact cellAt (alloc_at rfl) rfl
  have n1 : Xa.cell? ⟨X.heap.size, 1, none⟩ = some (.string (makeB bk r)) := by rw [← hXa]; exact cellAt (alloc_at rfl) rfl
  rw [hXa] at hb0
  have hSa := hS.after hb0
  obtain ⟨q0, q1, q2, q3, q4, q5⟩ := box_cells (hSa.box hC.ok hC.le hC.bx)
  obtain ⟨a1, a3, _, _, f1, f2, f3⟩ := hSa.at (i := k) (by omega)
  obtain ⟨_, g3, _, _, _, _, _⟩ := hSa.at hi
  rw [if_pos hk] at a1 a3
  have ek : raws.getD k ⟨#[]⟩ = bk := by rw [List.getD, hbk]; rfl
  rw [ek] at a1
  have hsi := hC.sz i r hr
  have hsk := hC.sz k bk hbk
  have hfew := hC.few
  have hlk := solved_get hSa hbk hk
  have HFB : Hid (∀ q : Nat, SM w W0 A raws its dp d d (d ++ [i]) d ((Xa.drewN q).setCell ⟨A.b3, i, none⟩ (.int .i64 (dp i : Int)))) := hideIt (fun q => (hSa.after (below_drewN _ q)).far hC.ok hi)
  have HFC : Hid (∀ Y, SM w W0 A raws its dp d d (d ++ [i]) d Y → Y.cell? ⟨A.bx, 3, none⟩ = some (.slice (some ⟨A.b3, 0, none⟩) raws.length raws.length) ∧ Y.cell? ⟨A.b3, i, none⟩ = some (.int .i64 (dp i : Int)) ∧ Y.cell? ⟨A.bx, 1, none⟩ = some (.slice (some ⟨A.b1, 0, none⟩) raws.length raws.length) ∧ Y.cell? ⟨A.b1, k, none⟩ = some (.string bk)) := hideIt (fun Y h => by
    obtain ⟨_, z1, _, z3, _, _⟩ := box_cells (h.box hC.ok hC.le hC.bx)
    obtain ⟨y1, _, _, _, _, _, _⟩ := h.at (i := k) (by omega)
    obtain ⟨_, y3, _, _, _, _, _⟩ := h.at hi
    rw [if_pos hk, ek] at y1
    rw [if_pos (by simp)] at y3
    exact ⟨z3, y3, z1, y1⟩)
  have HN1 : Hid (∀ q, ((Xa.drewN q).setCell ⟨A.b3, i, none⟩ (.int .i64 (dp i : Int))).cell? ⟨X.heap.size, 1, none⟩ = some (.string (makeB bk r))) := hideIt (fun q => by
    rw [← n1]
    refine World.cell?_of_block (a := ⟨X.heap.size, 1, none⟩) ?_
    rw [other_cell _ (by have := hC.ok.lt; have := hC.le; have := hS.z; show X.heap.size ≠ A.b3; omega)]
    rfl)
  have hne : ¬ (shaB bk).toList = [] := fun e => shaB_ne bk (bytes_ext (by rw [ByteArray.toList_eq] at e; exact e))
  have hne2 : ((shaB bk).toList == []) = false := beq_eq_false_iff_ne.2 hne
  rw [e1] at c0
  rw [e2] at c1
  obtain ⟨n, hn⟩ : ∃ n, raws.length = n := ⟨_, rfl⟩
  rw [hn] at hi hle p0 q0 q1 q2 q3 hfew HFC
  have hkn : k < n := by omega
  have i1 : (i : Int) < (n : Int) := by omega
  have i2 : decide ((i : Int) < (n : Int)) = true := decide_eq_true i1
  have k1 : (k : Int) < (n : Int) := by omega
  have k2 : decide ((k : Int) < (n : Int)) = true := decide_eq_true k1
  have d1 : (dp k : Int) + 1 = (dp i : Int) := by omega
  have d2 : (12 : Int) < (dp i : Int) := by omega
  have d3 : decide ((12 : Int) < (dp i : Int)) = true := decide_eq_true d2
  have d4 : (dp i : Int) ≤ 13 := by omega
  have d5 : (dp k : Int) ≤ 12 := by omega
  generalize shaB bk = S at c0 hlk hne hne2 n0 hXa
  generalize makeB bk r = M at c1 n1 hXa HN1
  clear hk12 hC hS hSa hr hx e1 e2 hp hn hk hbk ek hb0 hdp h12 hki
  go_enter Tryz.func59, Tryz.ntmps59
  go_wp2_with fail
  go_quiet (fail)
  go_wp2_with fail
  go_region
  have hFN := HFB.out (nq + 1)
  have m1 := HN1.out (nq + 1)
  generalize (Xa.drewN (nq + 1)).setCell ⟨A.b3, i, none⟩ (.int .i64 (dp i : Int)) = Xb at hFN m1 ⊢
  obtain ⟨y0, y1, y2, y3⟩ := HFC.out Xb hFN
  have HFN := hideIt hFN
  clear hFN hXa hlk n0 n1 p0 q0 q1 q2 q3 q4 q5 a1 a3 g3 f1 f2 f3 c0 c1 c2
  go_wp2_with fail
  go_ret2
  exact ⟨rfl, HFN.out.bl⟩
end
end Go.Proofs.YtdbbgpcjclmelaaGreatDoor.Ch
