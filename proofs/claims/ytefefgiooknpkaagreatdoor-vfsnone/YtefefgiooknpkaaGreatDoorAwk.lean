/- What is not sure is lost, what is is not: the statements' own waking test, walked. -/
import Derived.Test.YtefefgiooknpkaaGreatDoorCrs
namespace Go.Proofs.YtefefgiooknpkaaGreatDoor
open Go.RowKit Go.Shelf Go.Maps
set_option maxHeartbeats 400000 in
set_option maxRecDepth 100000 in
theorem up_any {w : World} {fb : Nat} {now sure done unsure : Value} {came used room steps : Int} (h : FsAt w fb now sure done unsure came used room steps true) :
    Calls Tryz.prog 18 #[.pointer (some ⟨fb, 0, none⟩)] w fun e w' => e = .returned (.bool true) ∧ FsAt w' fb now sure done unsure came used room steps false ∧ Kept [fb] w w' := by
  have c9 := fs9 h
  have f9 := thawAt h 9
  have HR : Hid (FsAt (w.setCell ⟨fb, 9, none⟩ (.bool false)) fb now sure done unsure came used room steps false) := hideIt (by
    unfold FsAt
    rw [heap_setCell_same w fb 9 _ 79 _ h]
    rfl)
  clear h
  go_enter Tryz.func18, Tryz.ntmps18
  go_wp2
  go_ret
  exact ⟨rfl, HR.out, Kept.set _ _ _⟩
theorem new_at (room : Nat) (w : World) : Calls Tryz.prog 23 #[.int .i64 (room : Int)] w fun e w' => e = .returned (.tuple #[.pointer (some ⟨w.heap.size, 0, none⟩), .int .i64 0]) ∧ FsAt w' w.heap.size (.map none) (.map none) (.slice none 0 0) (.map none) 0 0 room 0 false ∧ Kept [] w w' ∧ w'.heap.size = w.heap.size + 1 :=
  (new_any room w).mono fun e w' ⟨h1, h2⟩ => ⟨h1, by rw [h2]; exact alloc_at rfl, by rw [h2]; exact Kept.alloc _ _, by rw [h2]; simp⟩
def sa : ByteArray := ⟨#[97]⟩
def sb : ByteArray := ⟨#[98]⟩
def sx : ByteArray := ⟨#[120]⟩
def sy : ByteArray := ⟨#[121]⟩
theorem path_a : pathL sa.data.toList = true := by decide
theorem path_b : pathL sb.data.toList = true := by decide
theorem dir_a : dirOf sa = ⟨#[]⟩ := by decide +kernel
theorem dir_b : dirOf sb = ⟨#[]⟩ := by decide +kernel
theorem Kept.base {bs : List Nat} {w w' : World} (h : Kept bs w w') (n0 : Nat) (hn : n0 ≤ w.heap.size) (hb : ∀ x ∈ bs, n0 ≤ x) : Below n0 w w' := ⟨h.os, h.tape, h.output, h.size, fun k hk => h.block k (by omega) (fun e => by have := hb k e; omega)⟩
theorem row_base {B n : Nat} {w : World} {v : Value} {xs : List Value} (h : w.ownsRow B 86 4 v n xs) : ∀ x ∈ v.ownBlock.toList, B ≤ x := by
  intro x hx
  rcases h.2 with ⟨rfl, _⟩ | ⟨g, cap, cur, rfl, h1, _⟩
  · simp [Value.ownBlock] at hx
  · simp [Value.ownBlock] at hx
    omega
theorem MaxAt.base {w w' : World} {n0 : Nat} (h : MaxAt w) (hb : Below n0 w w') (hn : 0 < n0) : MaxAt w' := h.keep (hb.block 0 hn)
def ptr (b : Nat) : Value := .pointer (some ⟨b, 0, none⟩)
def acta (xb : Nat) : List Value := [.int .i64 0, .string sa, .string ⟨#[]⟩, ptr xb]
def actb (xb : Nat) : List Value := [.int .i64 0, .string sb, .string ⟨#[]⟩, ptr xb]
def S1 (n0 fb : Nat) (w : World) : Prop := ∃ b1 b2 b3 done xb, n0 ≤ b1 ∧ n0 ≤ b2 ∧ n0 ≤ b3 ∧ n0 ≤ xb ∧ n0 ≤ fb ∧ fb ≠ xb ∧ St n0 w fb b1 b2 b3 done 1 1 100 1 1 0 1 1 (one sa (ptr xb)) (.map []) (unsureD sx (.map []) 0 xb) (acta xb) ∧ FileAt w xb (0 : Nat) sx ⟨#[]⟩ 1
def S2 (n0 fb : Nat) (w : World) : Prop := ∃ b1 b2 b3 done xb, n0 ≤ b1 ∧ n0 ≤ b2 ∧ n0 ≤ b3 ∧ n0 ≤ xb ∧ n0 ≤ fb ∧ fb ≠ xb ∧ St n0 w fb b1 b2 b3 done 1 1 100 2 1 0 1 1 (one sa (ptr xb)) (.map []) (.map []) (acta xb) ∧ FileAt w xb (0 : Nat) sx sx 1
def S3 (n0 fb : Nat) (w : World) : Prop := ∃ b1 b2 b3 done xb, n0 ≤ b1 ∧ n0 ≤ b2 ∧ n0 ≤ b3 ∧ n0 ≤ xb ∧ n0 ≤ fb ∧ fb ≠ xb ∧ St n0 w fb b1 b2 b3 done 1 1 100 3 1 1 1 0 (one sa (ptr xb)) (one sa (ptr xb)) (.map []) [] ∧ FileAt w xb (0 : Nat) sx sx 1
def S4 (n0 fb : Nat) (w : World) : Prop := ∃ b1 b2 b3 done xb x2, n0 ≤ b1 ∧ n0 ≤ b2 ∧ n0 ≤ b3 ∧ n0 ≤ xb ∧ n0 ≤ x2 ∧ n0 ≤ fb ∧ fb ≠ xb ∧ fb ≠ x2 ∧ xb ≠ x2 ∧ St n0 w fb b1 b2 b3 done 2 2 100 4 2 1 2 1 ((one sa (ptr xb)).put (key sb) (.held (ptr x2))) (one sa (ptr xb)) (unsureD sy (.map []) 1 x2) (actb x2) ∧ FileAt w xb (0 : Nat) sx sx 1 ∧ FileAt w x2 (1 : Nat) sy ⟨#[]⟩ 1
def S5 (n0 fb : Nat) (w : World) : Prop := ∃ b1 b2 b3 done xb x2, n0 ≤ b1 ∧ n0 ≤ b2 ∧ n0 ≤ b3 ∧ n0 ≤ xb ∧ n0 ≤ fb ∧ fb ≠ xb ∧ St n0 w fb b1 b2 b3 done 2 2 100 5 2 1 2 1 ((one sa (ptr xb)).put (key sb) (.held (ptr x2))) (one sa (ptr xb)) (.map []) (actb x2) ∧ FileAt w xb (0 : Nat) sx sx 1
def S6 (d : Bool) (n0 fb : Nat) (w : World) : Prop := ∃ nb b2 b3 xb, n0 ≤ fb ∧ fb ≠ xb ∧ FsAt w fb (.map (some nb)) (.map (some b2)) (.slice none 0 0) (.map (some b3)) (2 : Nat) (1 : Nat) (100 : Nat) (5 : Nat) d ∧ NMap w nb 1 (one sa (ptr xb)) ∧ FileAt w xb (0 : Nat) sx sx 1
section
variable {n0 fb : Nat} {w : World}
theorem t1 (h : FsAt w fb (.map none) (.map none) (.slice none 0 0) (.map none) 0 0 (100 : Nat) 0 false) (hm : MaxAt w) (hn : n0 ≤ fb) :
    Calls Tryz.prog 12 #[ptr fb, .string sa, .string sx] w fun e w' => e = .returned (.int .i64 0) ∧ S1 n0 fb w' ∧ Below n0 w w' := by
  have hf := block_lt h
  refine (write_fresh (B0 := n0) h hm (by omega) sa sx (by decide) (by decide) path_a (by decide) dir_a (by decide) (by decide)).mono ?_
  rintro e w' ⟨he, b1, b2, b3, done', xb, q1, q2, q3, q4, h1, h2, h3⟩
  exact ⟨he, ⟨b1, b2, b3, done', xb, by omega, by omega, by omega, by omega, hn, by omega, h1, h2⟩, h3.base n0 (by omega) (by simp; omega)⟩
theorem t2 (h : S1 n0 fb w) (hm : MaxAt w) : Calls Tryz.prog 13 #[ptr fb, .string sa] w fun e w' => e = .returned (.int .i64 0) ∧ S2 n0 fb w' ∧ Below n0 w w' := by
  obtain ⟨b1, b2, b3, done, xb, q1, q2, q3, q4, q5, q6, hS, hF⟩ := h
  refine (sync_any hS hm sa (by decide) path_a (by decide) (xb := xb) (num := 0) rfl rfl hF q6 (by decide)).mono ?_
  rintro e w' ⟨he, h1, h2, h3⟩
  exact ⟨he, ⟨b1, b2, b3, done, xb, q1, q2, q3, q4, q5, q6, h1, h2⟩, h3.base n0 hS.ba (by simp; omega)⟩
theorem t3 (h : S2 n0 fb w) : Calls Tryz.prog 15 #[ptr fb, .string ⟨#[]⟩] w fun e w' => e = .returned (.int .i64 0) ∧ S3 n0 fb w' ∧ Below n0 w w' := by
  obtain ⟨b1, b2, b3, done, xb, q1, q2, q3, q4, q5, q6, hS, hF⟩ := h
  have e2 := file_ne_map hF hS.m2
  have e4 := row_ne_cells hS.row hF (by decide)
  have rb := row_base hS.row
  refine (syncDir_root sa (by decide) dir_a (some ⟨xb, 0, none⟩) hS (by decide) (by decide) rfl).mono ?_
  rintro e w' ⟨he, done', h1, h2⟩
  refine ⟨he, ⟨b1, b2, b3, done', xb, q1, q2, q3, q4, q5, q6, h1, h2.fs hF ?_⟩, h2.base n0 hS.ba ?_⟩
  · simp only [List.mem_cons, not_or]
    exact ⟨fun e => q6 e.symm, e2, e4⟩
  · intro y hy
    simp only [List.mem_cons] at hy
    rcases hy with rfl | rfl | hy
    · exact q5
    · exact q2
    · exact rb y hy
theorem t4 (h : S3 n0 fb w) (hm : MaxAt w) : Calls Tryz.prog 12 #[ptr fb, .string sb, .string sy] w fun e w' => e = .returned (.int .i64 0) ∧ S4 n0 fb w' ∧ Below n0 w w' := by
  obtain ⟨b1, b2, b3, done, xb, q1, q2, q3, q4, q5, q6, hS, hF⟩ := h
  have e1 := file_ne_map hF hS.m1
  have e3 := file_ne_map hF hS.m3
  have e4 := row_ne_cells hS.row hF (by decide)
  have rb := row_base hS.row
  have l1 := block_lt hF
  have l2 := block_lt hS.fs
  have l3 := hS.ba
  refine (write_more hS hm sb sy (by decide) (by decide) path_b (by decide) dir_b (by decide) (by decide) (by decide) (by decide) (by decide) (by decide) (by decide) rfl rfl).mono ?_
  rintro e w' ⟨he, done', x2, h0, h1, h2, h3⟩
  refine ⟨he, ⟨b1, b2, b3, done', xb, x2, q1, q2, q3, q4, by omega, q5, q6, by omega, by omega, h1, h3.fs hF ?_, h2⟩, h3.base n0 hS.ba ?_⟩
  · simp only [List.mem_cons, not_or]
    exact ⟨fun e => q6 e.symm, e1, e3, e4⟩
  · intro y hy
    simp only [List.mem_cons] at hy
    rcases hy with rfl | rfl | rfl | hy
    · exact q5
    · exact q1
    · exact q3
    · exact rb y hy
theorem t5 (h : S4 n0 fb w) (hm : MaxAt w) : Calls Tryz.prog 13 #[ptr fb, .string sb] w fun e w' => e = .returned (.int .i64 0) ∧ S5 n0 fb w' ∧ Below n0 w w' := by
  obtain ⟨b1, b2, b3, done, xb, x2, q1, q2, q3, q4, q5, q6, q7, q8, q9, hS, hF, hF2⟩ := h
  have e3 := file_ne_map hF hS.m3
  refine (sync_any hS hm sb (by decide) path_b (by decide) (xb := x2) (num := 1) rfl rfl hF2 q8 (by decide)).mono ?_
  rintro e w' ⟨he, h1, h2, h3⟩
  refine ⟨he, ⟨b1, b2, b3, done, xb, x2, q1, q2, q3, q4, q6, q7, h1, h3.fs hF ?_⟩, h3.base n0 hS.ba (by simp; omega)⟩
  simp
  exact ⟨fun e => q7 e.symm, q9, e3⟩
theorem t6 (h : S5 n0 fb w) : Calls Tryz.prog 17 #[ptr fb, .int .u64 0, .int .i64 0] w fun e w' => e = .returned (.tuple #[]) ∧ S6 true n0 fb w' ∧ Below n0 w w' := by
  obtain ⟨b1, b2, b3, done, xb, x2, q1, q2, q3, q4, q5, q6, hS, hF⟩ := h
  refine (crash_none sa hS hF q6 (by decide)).mono ?_
  rintro e w' ⟨he, nb, h1, h2, h3, h4⟩
  exact ⟨he, ⟨nb, b2, b3, xb, q5, q6, h1, h2, h3⟩, h4.base n0 hS.ba (by simp; omega)⟩
theorem t7 (h : S6 true n0 fb w) (hn : n0 ≤ w.heap.size) : Calls Tryz.prog 18 #[ptr fb] w fun e w' => e = .returned (.bool true) ∧ S6 false n0 fb w' ∧ Below n0 w w' := by
  obtain ⟨nb, b2, b3, xb, q5, q6, h1, h2, h3⟩ := h
  have e1 := file_ne_map h1 h2
  refine (up_any h1).mono ?_
  rintro e w' ⟨he, r1, r2⟩
  exact ⟨he, ⟨nb, b2, b3, xb, q5, q6, r1, r2.map h2 (by simpa using fun e => e1 e.symm), r2.fs h3 (by simpa using fun e => q6 e.symm)⟩, r2.base n0 hn (by simpa using q5)⟩
theorem t8 (h : S6 false n0 fb w) (hm : MaxAt w) (hn : n0 ≤ w.heap.size) : Calls Tryz.prog 19 #[ptr fb, .string sa] w fun e w' => e = .returned (.tuple #[.string sx, .int .i64 0]) ∧ S6 false n0 fb w' ∧ Below n0 w w' := by
  obtain ⟨nb, b2, b3, xb, q5, q6, h1, h2, h3⟩ := h
  refine (read_there h1 h2 hm sa (by decide) path_a (xb := xb) rfl rfl h3).mono ?_
  rintro e w' ⟨he, r2⟩
  exact ⟨he, ⟨nb, b2, b3, xb, q5, q6, r2.fs h1 (by simp), r2.map h2 (by simp), r2.fs h3 (by simp)⟩, r2.base n0 hn (by simp)⟩
theorem t9 (h : S6 false n0 fb w) (hm : MaxAt w) (hn : n0 ≤ w.heap.size) : Calls Tryz.prog 19 #[ptr fb, .string sb] w fun e w' => e = .returned (.tuple #[.string ⟨#[]⟩, .int .i64 2]) ∧ Below n0 w w' := by
  obtain ⟨nb, b2, b3, xb, q5, q6, h1, h2, h3⟩ := h
  refine (read_gone h1 h2 hm sb (by decide) path_b rfl).mono ?_
  rintro e w' ⟨he, r2⟩
  exact ⟨he, r2.base n0 hn (by simp)⟩
end
theorem bbase {n0 : Nat} {w0 w w' : World} (h : Below n0 w0 w) (k : Below n0 w w') : Below n0 w0 w' := h.trans k
set_option maxHeartbeats 800000 in
set_option maxRecDepth 100000 in
theorem awake_any (w : World) (hm : MaxAt w) : Calls Tryz.prog 8 #[] w fun e w' => e = .returned (.bool true) ∧ Below w.heap.size w w' := by
  obtain ⟨n0, hn0⟩ : ∃ n0, w.heap.size = n0 := ⟨_, rfl⟩
  have hpos : 0 < n0 := by have := hm.pos; omega
  have HN := hideIt (new_at 100 w)
  rw [hn0] at HN
  have HM := hideIt hm
  have H1 := hideIt (fun X h hm => t1 (n0 := n0) (fb := n0) (w := X) h hm (Nat.le_refl _))
  have H2 := hideIt (fun X => t2 (n0 := n0) (fb := n0) (w := X))
  have H3 := hideIt (fun X => t3 (n0 := n0) (fb := n0) (w := X))
  have H4 := hideIt (fun X => t4 (n0 := n0) (fb := n0) (w := X))
  have H5 := hideIt (fun X => t5 (n0 := n0) (fb := n0) (w := X))
  have H6 := hideIt (fun X => t6 (n0 := n0) (fb := n0) (w := X))
  have H7 := hideIt (fun X => t7 (n0 := n0) (fb := n0) (w := X))
  have H8 := hideIt (fun X => t8 (n0 := n0) (fb := n0) (w := X))
  have H9 := hideIt (fun X => t9 (n0 := n0) (fb := n0) (w := X))
  have HZ : Hid (w.heap.size = n0) := hideIt hn0
  rw [hn0]
  have q1 : (sx.toList == [120]) = true := by rw [ByteArray.toList_eq]; rfl
  clear hm hn0
  go_enter Tryz.func8, Tryz.ntmps8
  go_wp2_with (first | (go_at_call 23; refine HN.out.mono ?_; rintro e w1 ⟨rfl, hf1, hk1, hz1⟩; have HB1 : Hid (Below n0 w w1) := hideIt (hk1.base n0 (by rw [HZ.out]; exact Nat.le_refl _) (by simp)); have HF1 := hideIt hf1; clear hf1 hk1 hz1))
  go_wp2_with (first | (go_at_call 12; refine (H1.out _ HF1.out (HM.out.base HB1.out hpos)).mono ?_; rintro e w2 ⟨rfl, hs2, hb2⟩; have HS2 := hideIt hs2; have HB2 := hideIt (bbase HB1.out hb2); clear hs2 hb2))
  go_wp2_with (first | (go_at_call 13; refine (H2.out _ HS2.out (HM.out.base HB2.out hpos)).mono ?_; rintro e w3 ⟨rfl, hs3, hb3⟩; have HS3 := hideIt hs3; have HB3 := hideIt (bbase HB2.out hb3); clear hs3 hb3))
  go_wp2_with (first | (go_at_call 15; refine (H3.out _ HS3.out).mono ?_; rintro e w4 ⟨rfl, hs4, hb4⟩; have HS4 := hideIt hs4; have HB4 := hideIt (bbase HB3.out hb4); clear hs4 hb4))
  go_wp2_with (first | (go_at_call 12; refine (H4.out _ HS4.out (HM.out.base HB4.out hpos)).mono ?_; rintro e w5 ⟨rfl, hs5, hb5⟩; have HS5 := hideIt hs5; have HB5 := hideIt (bbase HB4.out hb5); clear hs5 hb5))
  go_wp2_with (first | (go_at_call 13; refine (H5.out _ HS5.out (HM.out.base HB5.out hpos)).mono ?_; rintro e w6 ⟨rfl, hs6, hb6⟩; have HS6 := hideIt hs6; have HB6 := hideIt (bbase HB5.out hb6); clear hs6 hb6))
  go_wp2_with (first | (go_at_call 17; refine (H6.out _ HS6.out).mono ?_; rintro e w7 ⟨rfl, hs7, hb7⟩; have HS7 := hideIt hs7; have HB7 := hideIt (bbase HB6.out hb7); clear hs7 hb7))
  go_wp2_with (first | (go_at_call 18; refine (H7.out _ HS7.out (Nat.le_trans (Nat.le_of_eq HZ.out.symm) HB7.out.size)).mono ?_; rintro e w8 ⟨rfl, hs8, hb8⟩; have HS8 := hideIt hs8; have HB8 := hideIt (bbase HB7.out hb8); clear hs8 hb8))
  go_wp2_with (first | (go_at_call_of 19 (Value.string ⟨#[97]⟩); refine (H8.out _ HS8.out (HM.out.base HB8.out hpos) (Nat.le_trans (Nat.le_of_eq HZ.out.symm) HB8.out.size)).mono ?_; rintro e w9 ⟨rfl, hs9, hb9⟩; have HS9 := hideIt hs9; have HB9 := hideIt (bbase HB8.out hb9); clear hs9 hb9))
  go_wp2_with (first | (go_at_call 19; refine (H9.out _ HS9.out (HM.out.base HB9.out hpos) (Nat.le_trans (Nat.le_of_eq HZ.out.symm) HB9.out.size)).mono ?_; rintro e w10 ⟨rfl, hb10⟩; have HB10 := hideIt (bbase HB9.out hb10); clear hb10))
  go_ret
  exact ⟨rfl, HB10.out⟩
end Go.Proofs.YtefefgiooknpkaaGreatDoor
