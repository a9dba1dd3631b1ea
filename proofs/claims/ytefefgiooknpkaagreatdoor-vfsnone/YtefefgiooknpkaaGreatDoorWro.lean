/- A file that is there gets other bytes, as many, by a Write: walked. -/
import Derived.Test.YtefefgiooknpkaaGreatDoorAwk
namespace Go.Proofs.YtefefgiooknpkaaGreatDoor
open Go.RowKit Go.Shelf Go.Maps
variable {B0 : Nat}
set_option maxHeartbeats 400000 in
theorem folder_file {w : World} {b n : Nat} {D : DataW Value} (h : NMap w b n D) (p : ByteArray) (hp : p.size ≤ 140737488355328) (h0 : p.data.toList ≠ []) (hh : Maps.has D (key p) = true) (a : Addr) (hv : valAt D (key p) = .pointer (some a)) :
    Calls Tryz.prog 36 #[.map (some b), .string p] w fun e w' => e = .returned (.bool false) ∧ w' = w := by
  have hl := look_ok h p (by unfold maxLen; omega)
  have e1 : (p.toList == []) = false := by rw [ByteArray.toList_eq]; simpa using h0
  have e2 : p.toList.isEmpty = false := by rw [ByteArray.toList_eq]; simpa using h0
  rw [hh, hv] at hl
  clear h hh hv
  go_enter Tryz.func36, Tryz.ntmps36
  go_wp2
  go_ret
  exact ⟨rfl, rfl⟩
section
variable {w : World} {fb b1 b2 b3 : Nat} {done : Value} {came used room steps n1 n2 n3 k : Nat} {D1 D2 D3 : DataW Value} {xs : List Value}
theorem lay_over (h : St B0 w fb b1 b2 b3 done came used room steps n1 n2 n3 k D1 D2 D3 xs) {xb num : Nat} {links : Int} {now sure : ByteArray} (hF : FileAt w xb num now sure links) (hfx : fb ≠ xb) (hnum : num < 1000) (hn3 : n3 < 1000) (s : ByteArray) (hss : s.data.toList ≠ sure.data.toList) (X : World) (hX : Kept [] w X) :
    Calls Tryz.prog 41 #[.pointer (some ⟨fb, 0, none⟩), .pointer (some ⟨xb, 0, none⟩), .string s, .string sure] X fun e w' => e = .returned (.tuple #[]) ∧
      FsAt w' fb (.map (some b1)) (.map (some b2)) done (.map (some b3)) came used room steps false ∧ FileAt w' xb num s sure links ∧ Kept [xb, b3] w w' := by
  have hS := h.keep0 hX
  have hF' := hX.fs hF (by simp)
  have e0 := file_ne_map hS.fs hS.m3
  exact (lay_other hS.fs hF' hS.m3 hfx hnum hn3 s sure hss).mono fun e w' ⟨h0, h1, h2, h3⟩ => ⟨h0, h3.fs hS.fs (by simp; exact ⟨hfx, e0⟩), h1, (hX.trans h3).sub (by simp)⟩
set_option maxHeartbeats 1600000 in
set_option maxRecDepth 100000 in
theorem write_over (h : St B0 w fb b1 b2 b3 done came used room steps n1 n2 n3 k D1 D2 D3 xs) (hm : MaxAt w) (p s : ByteArray) (hp : p.size ≤ 140737488355328) (hs : s.size ≤ 1000) (hpath : pathL p.data.toList = true) (hp0 : p.data.toList ≠ []) (hd : dirOf p = ⟨#[]⟩)
    (hsteps : steps < 900) (hused : used ≤ 1000) {xb num : Nat} {now sure : ByteArray} {links : Int} (hh : Maps.has D1 (key p) = true) (hv : valAt D1 (key p) = .pointer (some ⟨xb, 0, none⟩)) (hF : FileAt w xb num now sure links) (hfx : fb ≠ xb) (hnum : num < 1000) (hn3 : n3 < 900) (hsz : s.size = now.size) (hss : s.data.toList ≠ sure.data.toList) :
    Calls Tryz.prog 12 #[.pointer (some ⟨fb, 0, none⟩), .string p, .string s] w fun e w' => e = .returned (.int .i64 0) ∧ FileAt w' xb num s sure links ∧ Kept [fb, xb, b3] w w' := by
  have hp' : p.size ≤ maxLen := by unfold maxLen; omega
  obtain ⟨W, hW⟩ : ∃ W, w.alloc (.cells #[.string p] 9) = W := ⟨_, rfl⟩
  have hkW : Kept [] w W := by rw [← hW]; exact Kept.alloc _ _
  have hrow : W.heap[w.heap.size]? = some (.cells #[.string p] 9 (0, 0)) := by rw [← hW]; exact alloc_at rfl
  have HH := hideIt (hindered_one (hkW.fs h.fs (by simp)) (hkW.max hm (by simp)) p hp w.heap.size 9 hrow)
  have he : errPath p = 0 := by rw [errPath, if_pos hpath]
  rw [he] at HH
  have HA : Hid (∀ X, Below W.heap.size W X → Kept [] w X) := hideIt (fun X hX => (hkW.trans (Kept.of_below hX)).sub (by simp))
  have HD := hideIt (fun X => folderOf_any p X hp)
  rw [hd] at HD
  have HR : Hid (∀ X, Kept [] w X → Calls Tryz.prog 36 #[.map (some b1), .string ⟨#[]⟩] X fun e w' => e = .returned (.bool true) ∧ w' = X) := hideIt (fun X hX => folder_root (.inr ⟨b1, n1, D1, rfl, hX.map h.m1 (by simp)⟩))
  have HN : Hid (∀ X, Kept [] w X → Calls Tryz.prog 36 #[.map (some b1), .string p] X fun e w' => e = .returned (.bool false) ∧ w' = X) := hideIt (fun X hX => folder_file (hX.map h.m1 (by simp)) p hp hp0 hh _ hv)
  have HL : Hid (∀ X, Kept [] w X → (Instr.lookup 75 (.map (some b1)) (.string p) false).run Tryz.prog X = .ok (.pointer (some ⟨xb, 0, none⟩)) X) := hideIt (fun X hX => by rw [look_at (hX.map h.m1 (by simp)) p hp', hv])
  have HC : Hid (∀ X, Kept [] w X → X.cell? ⟨fb, 0, none⟩ = some (.map (some b1)) ∧ X.cell? ⟨xb, 1, none⟩ = some (.string now)) := hideIt (fun X hX => ⟨fs0 (hX.fs h.fs (by simp)), fl1 (hX.fs hF (by simp))⟩)
  have HT : Hid (∀ X, Kept [] w X → Calls Tryz.prog 38 #[.pointer (some ⟨fb, 0, none⟩)] X fun e w' => e = .returned (.int .i64 0) ∧ St B0 w' fb b1 b2 b3 done came used room (steps + 1) n1 n2 n3 k D1 D2 D3 xs ∧ FileAt w' xb num now sure links ∧ Kept [fb] w w') := hideIt (fun X hX =>
    ((h.keep0 hX).step hsteps).mono fun e w' ⟨a1, a2, a3⟩ => ⟨a1, a2, a3.fs (hX.fs hF (by simp)) (by simpa using fun e => hfx e.symm), (hX.trans a3).sub (by simp)⟩)
  have z0 : (s.size : Int) - (now.size : Int) = 0 := by omega
  have z1 : IntKind.i64.wrap (used : Int) = (used : Int) := by rw [IntKind.wrap_i64]; omega
  clear h hm hpath hd hkW hrow he hh hv hF
  go_enter Tryz.func12, Tryz.ntmps12
  go_wp2_with (first | (go_at_call 35; refine HH.out.mono ?_; rintro e w1 ⟨rfl, hb1⟩))
  have hk1 := HA.out w1 hb1
  obtain ⟨d0, x1⟩ := HC.out w1 hk1
  have HK1 := hideIt hk1
  have hl := HL.out w1.drew hk1.drew
  clear hk1
  go_region_held3 (fun X => X.cell? ⟨fb, 0, none⟩ = some (.map (some b1))) (first | exact d0 | assumption) (first | (go_at_call 37; refine (HD.out _).mono ?_; rintro e wx ⟨rfl, rfl⟩) | (go_at_call 36; refine (HR.out _ (by exact HK1.out.drew)).mono ?_; rintro e wx ⟨rfl, rfl⟩))
  go_wp2_with (first | (go_at_call 36; refine (HN.out _ (by exact HK1.out.drew)).mono ?_; rintro e wx ⟨rfl, rfl⟩))
  have HT1 : Hid (∀ j, Calls Tryz.prog 38 #[.pointer (some ⟨fb, 0, none⟩)] (w1.drewN j) fun e w' => e = .returned (.int .i64 0) ∧ St B0 w' fb b1 b2 b3 done came used room (steps + 1) n1 n2 n3 k D1 D2 D3 xs ∧ FileAt w' xb num now sure links ∧ Kept [fb] w w') := hideIt (fun j => HT.out _ (HK1.out.drewN j))
  go_quiet (fail)
  go_wp2_with (first | (go_at_call 38; refine (HT1.out _).mono ?_; rintro e w2 ⟨rfl, hS, hF2, hk2⟩; have c5 := fs5 hS.fs; have f5 := thawAt hS.fs 5))
  have hSU : St B0 (w2.setCell ⟨fb, 5, none⟩ (.int .i64 (used : Int))) fb b1 b2 b3 done came used room (steps + 1) n1 n2 n3 k D1 D2 D3 xs := by
    have := hS.setUsed 0
    simpa using this
  have hFU : FileAt (w2.setCell ⟨fb, 5, none⟩ (.int .i64 (used : Int))) xb num now sure links := (Kept.set fb 5 _).fs hF2 (by simpa using fun e => hfx e.symm)
  have x6 := fl2 hFU
  have HLA := hideIt (lay_over hSU hFU hfx hnum (by omega) s hss)
  have HX6 := hideIt (fun (X : World) (hX : Kept [] (w2.setCell ⟨fb, 5, none⟩ (.int .i64 (used : Int))) X) => fl2 (hX.fs hFU (by simp)))
  have HK2 := hideIt hk2
  clear hS hF2 hk2 hSU hFU
  go_region_held3 (fun X => X.cell? ⟨xb, 2, none⟩ = some (.string sure)) (first | exact x6 | exact HX6.out _ (kept_drew (by assumption)) | exact fl2 (by assumption) | assumption) (first | (go_at_call 40; refine (clone_any s _ (by omega)).mono ?_; rintro e w5 ⟨rfl, hb5⟩) | (go_at_call 41; refine (HLA.out _ (kept_drew hb5)).mono ?_; rintro e w6 ⟨rfl, hH7, hF7, hk7⟩))
  go_wp2
  go_ret
  exact ⟨rfl, hF7, ((HK2.out.trans (Kept.set fb 5 _)).trans hk7).sub (by simp)⟩
end
end Go.Proofs.YtefefgiooknpkaaGreatDoor
