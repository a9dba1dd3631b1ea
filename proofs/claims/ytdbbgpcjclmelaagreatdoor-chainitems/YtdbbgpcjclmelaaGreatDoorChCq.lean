/- Chains: an item is solved: walked. -/
import Derived.Test.YtdbbgpcjclmelaaGreatDoorChCp
namespace Go.Proofs.YtdbbgpcjclmelaaGreatDoor.Ch
open Cb Go.RowKit Go.Shelf Go.Maps
section
variable {w W0 W1 X : World} {A : Ad} {v : Value} {raws : List ByteArray} {its : List Im} {par : Nat → Option Nat} {dp : Nat → Nat} {d : List Nat}
def SolTo (w W0 : World) (A : Ad) (raws : List ByteArray) (its : List Im) (dp : Nat → Nat) (d : List Nat) (i : Nat) (e : Ending) (w' : World) : Prop := e = .returned (.int .i64 0) ∧ SM w W0 A raws its dp (d ++ [i]) (d ++ [i]) (d ++ [i]) (d ++ [i]) w'
theorem items_at (hC : Cx w W0 W1 A v raws its par dp) {dr ds df dm : List Nat} (hS : SM w W0 A raws its dp dr ds df dm X) {i b o c : Nat} {x : Im} (hx : its[i]? = some x) (hv : v = .slice (some ⟨b, o, none⟩) raws.length c) : X.cell? ⟨b, o + i * 3 + 2, none⟩ = some (.int .i64 x.pl) := by
  obtain ⟨_, a, c', e, _, _, hrow⟩ := hS.items hC.rows
  have hi : i < its.length := (List.getElem?_eq_some_iff.1 hx).1
  obtain ⟨b', o', rfl, hcells⟩ := hrow (by omega)
  obtain ⟨_, _, k2⟩ := imsV_at _ _ _ hx
  rw [hv] at e
  simp only [Value.slice.injEq, Option.some.injEq, Addr.mk.injEq] at e
  obtain ⟨⟨rfl, rfl, _⟩, _, _⟩ := e
  rw [Nat.add_assoc]
  exact hcells.2 _ _ k2
set_option maxHeartbeats 1600000 in
set_option maxRecDepth 100000 in
theorem solve_ok (hC : Cx w W0 W1 A v raws its par dp) (hS : SM w W0 A raws its dp d d d d X) {i : Nat} (hi : i < raws.length) (hnew : i ∉ d) (hd : d.length ≤ 2048) (hp : ∀ k, par i = some k → k ∈ d) (h12 : dp i ≤ 12) :
    Calls Tryz.prog 42 #[.pointer (some ⟨A.bx, 0, none⟩), .int .i64 (i : Int)] X fun e w' => SolTo w W0 A raws its dp d i e w' := by
  obtain ⟨x, r, hx, hr⟩ := hC.fst.get hi
  have HT : Hid (∀ e w', SolTo w W0 A raws its dp d i e w' ↔ e = .returned (.int .i64 0) ∧ SM w W0 A raws its dp (d ++ [i]) (d ++ [i]) (d ++ [i]) (d ++ [i]) w') := hideIt (fun _ _ => Iff.rfl)
  have HRAW : Hid (Calls Tryz.prog 59 #[.pointer (some ⟨A.bx, 0, none⟩), .int .i64 (i : Int)] X fun e w' => RawTo w W0 A raws its dp d i r e w') := hideIt (by
    cases hpi : par i with
    | none => exact rawOf_whole hC hS hr hpi
    | some k => exact rawOf_made hC hS hr hpi (hp k hpi) h12)
  have HLK := hideIt (fun Y (h : SM w W0 A raws its dp d d (d ++ [i]) d Y) => hC.lk i r hr Y (hC.ko.below h.bl))
  have hsz := hC.sz i r hr
  have HID : Hid (∀ Y, SM w W0 A raws its dp d d (d ++ [i]) d Y → Calls Tryz.prog 18 #[.string r] Y fun e w' => e = .returned (.string (shaB r)) ∧ Below Y.heap.size Y w') := hideIt (fun Y h => Ob.id_any r Y (by omega) (hC.ko.below h.bl))
  have HUN := hideIt (fun Y (h : SM w W0 A raws its dp d d (d ++ [i]) d Y) => unsolved_get h hr hnew)
  have hfew := hC.few
  have HPU := hideIt (fun Y (h : SM w W0 A raws its dp d d (d ++ [i]) d Y) => solved_put hC.ok hC.fst hd h hr (by omega))
  have HRW := hideIt (fun Y (h : SM w W0 A raws its dp d d (d ++ [i]) (d ++ [i]) Y) => h.raw hC.ok hr)
  have HSP := hideIt (fun Y (h : SM w W0 A raws its dp (d ++ [i]) d (d ++ [i]) (d ++ [i]) Y) => h.spot hC.ok hr hx)
  have HB1 : Hid (∀ Y, SM w W0 A raws its dp d d (d ++ [i]) d Y → Y.cell? ⟨A.bx, 5, none⟩ = some (.map (some A.b5))) := hideIt (fun Y h => by
    obtain ⟨_, _, _, _, _, z5⟩ := box_cells (h.box hC.ok hC.le hC.bx)
    exact z5)
  have HB2 : Hid (∀ Y, SM w W0 A raws its dp d d (d ++ [i]) (d ++ [i]) Y → Y.cell? ⟨A.bx, 1, none⟩ = some (.slice (some ⟨A.b1, 0, none⟩) raws.length raws.length) ∧ (∃ u, Y.cell? ⟨A.b1, i, none⟩ = some u) ∧ Y.frozen? ⟨A.b1, i, none⟩ = false) := hideIt (fun Y h => by
    obtain ⟨_, z1, _, _, _, _⟩ := box_cells (h.box hC.ok hC.le hC.bx)
    obtain ⟨y1, _, _, _, f1, _, _⟩ := h.at hi
    exact ⟨z1, ⟨_, y1⟩, f1 _⟩)
  obtain ⟨b, o, c, rfl, hle, hcm, _, _, _⟩ := item_cells hC hS hx
  have HB3 : Hid (∀ Y, SM w W0 A raws its dp (d ++ [i]) d (d ++ [i]) (d ++ [i]) Y → Y.cell? ⟨A.bx, 2, none⟩ = some (.slice (some ⟨A.b2, 0, none⟩) raws.length raws.length) ∧ Y.cell? ⟨A.bx, 0, none⟩ = some (.slice (some ⟨b, o, none⟩) raws.length c) ∧ (∃ u, Y.cell? ⟨A.b2, i * 2, none⟩ = some u) ∧ (∃ u, Y.cell? ⟨A.b2, i * 2 + 1, none⟩ = some u) ∧ (∀ p, Y.frozen? ⟨A.b2, p, none⟩ = false) ∧ Y.cell? ⟨b, o + i * 3 + 2, none⟩ = some (.int .i64 x.pl)) := hideIt (fun Y h => by
    obtain ⟨z0, _, z2, _, _, _⟩ := box_cells (h.box hC.ok hC.le hC.bx)
    obtain ⟨_, _, y2, y3, _, f2, _⟩ := h.at hi
    exact ⟨z2, z0, ⟨_, y2⟩, ⟨_, y3⟩, f2, items_at hC h hx rfl⟩)
  obtain ⟨n, hn⟩ : ∃ n, raws.length = n := ⟨_, rfl⟩
  rw [hn] at hi hle hfew HB2 HB3
  have i1 : (i : Int) < (n : Int) := by omega
  have i2 : decide ((i : Int) < (n : Int)) = true := decide_eq_true i1
  generalize shaB r = S at HID HUN HPU HSP
  clear hC hS hr hx hn hp hnew h12 hd
  go_enter Tryz.func42, Tryz.ntmps42
  go_wp2_with (first
    | (go_at_call 59; refine HRAW.out.mono ?_; rintro e w1 ⟨rfl, h1⟩; have S1 := hideIt h1; clear h1)
    | (go_at_call 60; refine (HLK.out _ S1.out).mono ?_; rintro e w2 ⟨rfl, hb2⟩; have S2 := hideIt (S1.out.after hb2); clear hb2)
    | (go_at_call 18; refine (HID.out _ S2.out).mono ?_; rintro e w3 ⟨rfl, hb3⟩; have S3 := hideIt (S2.out.after hb3); have l3 := HUN.out _ S3.out; have q5 := HB1.out _ S3.out; obtain ⟨Y, hrun, hY⟩ := HPU.out _ S3.out; have S4 := hideIt hY; obtain ⟨q1, ⟨u, y1⟩, f1⟩ := HB2.out _ S4.out; have S5 := hideIt (HRW.out _ S4.out); obtain ⟨q2, q0, ⟨u1, y2⟩, ⟨u2, y3⟩, f2, c2⟩ := HB3.out _ S5.out; have f3 := f2 (i * 2); have f4 := f2 (i * 2 + 1); clear hb3 hY f2))
  generalize Y.setCell ⟨A.b1, i, none⟩ (.string r) = Y5 at S5 q2 q0 y2 y3 f3 f4 c2 ⊢
  clear q5 q1 y1 f1 l3 hrun
  have HFIN := hideIt (HSP.out _ S5.out)
  go_region
  go_wp2
  go_ret
  exact (HT.out _ _).2 ⟨rfl, HFIN.out.after ((Below.refl _ _).drew)⟩
set_option maxHeartbeats 800000 in
set_option maxRecDepth 100000 in
theorem solve_far (hC : Cx w W0 W1 A v raws its par dp) (hS : SM w W0 A raws its dp d d d d X) {i k : Nat} (hi : i < raws.length) (hp : par i = some k) (hk : k ∈ d) (hk12 : dp k ≤ 12) (h12 : 12 < dp i) :
    Calls Tryz.prog 42 #[.pointer (some ⟨A.bx, 0, none⟩), .int .i64 (i : Int)] X fun e w' => e = .returned (.int .i64 120) ∧ Below w.heap.size w w' := by
  obtain ⟨x, r, hx, hr⟩ := hC.fst.get hi
  have HRAW := hideIt (rawOf_far hC hS hr hp hk hk12 h12)
  clear hC hS hr hx hp hk hk12 h12
  go_enter Tryz.func42, Tryz.ntmps42
  go_wp2_with (first | (go_at_call 59; refine HRAW.out.mono ?_; rintro e w1 ⟨rfl, h1⟩))
  go_ret
  exact ⟨rfl, h1⟩
end
end Go.Proofs.YtdbbgpcjclmelaaGreatDoor.Ch
