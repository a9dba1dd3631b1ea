/- Objects' paths: plain facts. Objects' paths, walked. Folders made within another one, walked; Open. Open, walked: at a new one, at one that is there, without power. Get, walked. An object's file laid, walked. Put, walked; Links of a blob. The statements' own small functions, walked: blobs, a place, files; Put at a new place; its picture. One object kept at a new place: its pictures, through a fall that keeps nothing. A place with objects kept: what its pictures keep to, and how a Put turns them. Put at a place with objects kept. What a file's path says; names cut. The folders of a place, walked. Digits rise as ids do. The ids of all files: plain readings. List of a place, walked. Drop and Settle at a place with objects kept; what a fall leaves then. Settle, walked. An object is there behind a loss of power: the statements' waking test, walked. Plays of objects: the states of the statement's play, step by step. Texts as an argument, opened. A file that is taken away is gone, for sure when that is settled: the statement's road, walked whole. -/
import Derived.Test.YtbmhhlkjgnijgaaGreatDoorVcAll2
import Derived.Test.YtbmhhlkjgnijgaaGreatDoorCbPure
import Derived.Test.YtbmhhlkjgnijgaaGreatDoorCbHexw
import Derived.Test.YtbmhhlkjgnijgaaGreatDoorCbRefh
import Derived.Test.YtbmhhlkjgnijgaaGreatDoorOo
import Derived.Deep.RegionHeld3
import Derived.Test.YtbmhhlkjgnijgaaGreatDoorLdSpd
import Derived.Test.YtbmhhlkjgnijgaaGreatDoorLdSpq
import Derived.Test.YtbmhhlkjgnijgaaGreatDoorLdPressw
import Derived.Test.YtbmhhlkjgnijgaaGreatDoorOq
import Derived.Test.YtbmhhlkjgnijgaaGreatDoorCbUnhexw
import Derived.Lib.SplitLaws
import Derived.Lib.ReplaceLaws
import Derived.Maps.AppendAt
import Derived.Test.YtbmhhlkjgnijgaaGreatDoorOr
import Derived.ProofKit
import Derived.OpenShut
import Derived.Deep.Slices
import Derived.Deep.Fields
import Derived.Lib.SmallJoins
namespace Go.Proofs.YtbmhhlkjgnijgaaGreatDoor.Lo
open Vc
/-- The folder of all. -/
def objL : List UInt8 := [111, 98, 106, 101, 99, 116, 115]
def incL : List UInt8 := objL ++ 47 :: [105, 110, 99, 111, 109, 105, 110, 103]
def objP : ByteArray := Vc.bs objL
def incP : ByteArray := Vc.bs incL
/-- An id's folder, and its file. -/
def dirL (id : List UInt8) : List UInt8 := objL ++ 47 :: Cb.Cd.hexL (id.take 1)
def fileL (id : List UInt8) : List UInt8 := dirL id ++ 47 :: Cb.Cd.hexL (id.drop 1)
def dirP (id : List UInt8) : ByteArray := Vc.bs (dirL id)
def fileP (id : List UInt8) : ByteArray := Vc.bs (fileL id)
theorem dig_ok : ∀ n, n < 16 → okB (Cb.Cd.dig n) = true ∧ Cb.Cd.dig n ≠ 47 ∧ Cb.Cd.dig n ≠ 46 := by decide
theorem hex_all : ∀ l : List UInt8, (Cb.Cd.hexL l).all okB = true ∧ (47 : UInt8) ∉ Cb.Cd.hexL l ∧ (46 : UInt8) ∉ Cb.Cd.hexL l
  | [] => by simp [Cb.Cd.hexL]
  | c :: t => by
    obtain ⟨h1, h2, h3⟩ := hex_all t
    have hc : c.toNat < 256 := c.toNat_lt
    obtain ⟨a1, a2, a3⟩ := dig_ok (c.toNat / 16) (by omega)
    obtain ⟨b1, b2, b3⟩ := dig_ok (c.toNat % 16) (by omega)
    have e : Cb.Cd.hexL (c :: t) = Cb.Cd.dig (c.toNat / 16) :: Cb.Cd.dig (c.toNat % 16) :: Cb.Cd.hexL t := rfl
    rw [e]
    refine ⟨by simp only [List.all_cons, a1, b1, h1, Bool.and_self], ?_, ?_⟩
    · simp only [List.mem_cons, not_or]
      exact ⟨Ne.symm a2, Ne.symm b2, h2⟩
    · simp only [List.mem_cons, not_or]
      exact ⟨Ne.symm a3, Ne.symm b3, h3⟩
theorem okSeg_of_no {l : List UInt8} (h0 : l ≠ []) (h : (46 : UInt8) ∉ l) : okSeg l = true := by
  unfold okSeg
  rw [Bool.not_eq_true', Bool.or_eq_false_iff, Bool.or_eq_false_iff]
  refine ⟨⟨by simpa using h0, ?_⟩, ?_⟩
  · rw [beq_eq_false_iff_ne]
    intro e
    rw [e] at h
    simp at h
  · rw [beq_eq_false_iff_ne]
    intro e
    rw [e] at h
    simp at h
theorem obj_seg : objL.all okB = true ∧ (47 : UInt8) ∉ objL ∧ okSeg objL = true := by decide
theorem scan_hex (id : List UInt8) (h : id ≠ []) : scan [] (Cb.Cd.hexL id) = true := by
  obtain ⟨h1, h2, h3⟩ := hex_all id
  have h0 : Cb.Cd.hexL id ≠ [] := fun e => by
    have := Cb.Cd.hexL_len id
    rw [e] at this
    simp at this
    exact h (List.eq_nil_of_length_eq_zero (by omega))
  rw [scan_none _ [] h2, h1, List.nil_append, okSeg_of_no h0 h3]
  rfl
theorem dir_path {id : List UInt8} (h : id.length = 32) : pathL (dirL id) = true := by
  unfold pathL dirL
  rw [scan_some _ _ [] obj_seg.2.1, obj_seg.1, List.nil_append, obj_seg.2.2, scan_hex _ (fun e => by have h1 : (id.take 1).length = 0 := (by rw [e]; rfl); rw [List.length_take] at h1; omega)]
  have hl := Cb.Cd.hexL_len (id.take 1)
  simp only [Bool.and_true, decide_eq_true_eq, List.length_append, List.length_cons, hl, List.length_take]
  simp [objL]
  omega
theorem file_path {id : List UInt8} (h : id.length = 32) : pathL (fileL id) = true := by
  obtain ⟨h1, h2, h3⟩ := hex_all (id.take 1)
  have h0 : Cb.Cd.hexL (id.take 1) ≠ [] := fun e => by
    have := Cb.Cd.hexL_len (id.take 1)
    rw [e] at this
    simp at this
    omega
  have e : fileL id = objL ++ 47 :: (Cb.Cd.hexL (id.take 1) ++ 47 :: Cb.Cd.hexL (id.drop 1)) := by simp [fileL, dirL]
  unfold pathL
  rw [e, scan_some _ _ [] obj_seg.2.1, obj_seg.1, List.nil_append, obj_seg.2.2, scan_some _ _ [] h2, h1, List.nil_append, okSeg_of_no h0 h3, scan_hex _ (fun e => by have h1 : (id.drop 1).length = 0 := (by rw [e]; rfl); rw [List.length_drop] at h1; omega)]
  have hl := Cb.Cd.hexL_len (id.take 1)
  have hl2 := Cb.Cd.hexL_len (id.drop 1)
  simp only [Bool.and_true, decide_eq_true_eq, List.length_append, List.length_cons, hl, hl2, List.length_take, List.length_drop]
  simp [objL]
  omega
theorem obj_path : pathL objL = true := by decide
theorem inc_path : pathL incL = true := by decide
theorem getD_at (s : ByteArray) (j : Nat) (h : j < s.size) : s.data[j]! = (s.data.toList)[j]'(by rw [Array.length_toList]; exact h) := by
  have h' : j < s.data.size := h
  rw [Array.getElem!_eq_getD, Array.getD_eq_getD_getElem?, Array.getElem?_eq_getElem h']
  simp
/-- The folder of a path. -/
theorem dir_of (a b : List UInt8) (hb : (47 : UInt8) ∉ b) : dirOf (Vc.bs (a ++ 47 :: b)) = Vc.bs a := by
  have hsz : (Vc.bs (a ++ 47 :: b)).size = a.length + (b.length + 1) := by rw [Vc.bs_size]; simp
  have hl : (Vc.bs (a ++ 47 :: b)).data.toList = a ++ 47 :: b := Vc.bs_list _
  have hat : ∀ j (hj : j < (Vc.bs (a ++ 47 :: b)).size), (Vc.bs (a ++ 47 :: b)).data[j]! = (a ++ 47 :: b)[j]'(by simp; omega) := fun j hj => by
    rw [getD_at _ j hj]
    simp only [hl]
  have hi : Lib.lastIndexByte (Vc.bs (a ++ 47 :: b)) 47 = (a.length : Int) := by
    have h47 : ((a ++ 47 :: b)[a.length]'(by simp)) = 47 := by simp
    rcases Lib.lastIndexByte_spec (Vc.bs (a ++ 47 :: b)) 47 with ⟨_, h2⟩ | ⟨i, h1, h2, h3, h4⟩
    · have := h2 a.length (by omega)
      rw [hat a.length (by omega), h47] at this
      exact absurd rfl this
    · rw [h2]
      by_cases hlt : i < a.length
      · have := h4 a.length hlt (by omega)
        rw [hat a.length (by omega), h47] at this
        exact absurd rfl this
      · by_cases he : i = a.length
        · rw [he]
        · exfalso
          rw [hat i h1] at h3
          obtain ⟨k, rfl⟩ : ∃ k, i = a.length + (k + 1) := ⟨i - a.length - 1, by omega⟩
          have hlen : k < b.length := by omega
          have e1 : (a ++ 47 :: b)[a.length + (k + 1)]? = b[k]? := by
            rw [List.getElem?_append_right (by omega), Nat.add_sub_cancel_left, List.getElem?_cons_succ]
          rw [List.getElem?_eq_getElem (by simp; omega), List.getElem?_eq_getElem hlen] at e1
          rw [Option.some.inj e1] at h3
          have h47n : (47 : UInt8).toNat = 47 := rfl
          have : b[k]'hlen = 47 := UInt8.toNat_inj.1 (by rw [h47n]; omega)
          exact hb (this ▸ List.getElem_mem hlen)
  unfold dirOf
  rw [hi]
  have : (max (a.length : Int) 0).toNat = a.length := by omega
  rw [this, ← Vc.bs_data (ByteArray.extract _ _ _), ByteArray.data_extract, Array.toList_extract, hl]
  simp [List.extract]
theorem dir_file (id : List UInt8) : dirOf (fileP id) = dirP id := dir_of _ _ (hex_all _).2.1
theorem dir_dir (id : List UInt8) : dirOf (dirP id) = objP := dir_of _ _ (hex_all _).2.1
theorem dir_inc : dirOf incP = objP := dir_of _ _ (by decide)
theorem dir_obj : dirOf objP = ⟨#[]⟩ := by decide +kernel
theorem bsL_inj {a b : List UInt8} (h : Vc.bs a = Vc.bs b) : a = b := by
  have := congrArg (fun s => s.data.toList) h
  simpa [Vc.bs_list] using this
theorem hex_inj {a b : List UInt8} (h : Cb.Cd.hexL a = Cb.Cd.hexL b) : a = b := by
  have h1 := Cb.Cd.unhex_hex a
  rw [h, Cb.Cd.unhex_hex b] at h1
  simpa using h1.symm
theorem file_inj {a b : List UInt8} (ha : a.length = 32) (hb : b.length = 32) (h : fileP a = fileP b) : a = b := by
  have h1 := bsL_inj h
  unfold fileL dirL at h1
  have e1 := Cb.Cd.hexL_len (a.take 1)
  have e2 := Cb.Cd.hexL_len (b.take 1)
  simp only [List.append_assoc, List.cons_append, List.append_cancel_left_eq, List.cons.injEq, true_and] at h1
  obtain ⟨h2, h3⟩ := List.append_inj h1 (by rw [e1, e2]; simp [ha, hb])
  simp only [List.cons.injEq, true_and] at h3
  rw [← List.take_append_drop 1 a, ← List.take_append_drop 1 b, hex_inj h2, hex_inj h3]
theorem file_len {id : List UInt8} (h : id.length = 32) : (fileL id).length = 73 := by
  have hl := Cb.Cd.hexL_len (id.take 1)
  have hl2 := Cb.Cd.hexL_len (id.drop 1)
  simp only [fileL, dirL, List.length_append, List.length_cons, hl, hl2, List.length_take, List.length_drop]
  simp [objL]
  omega
theorem dir_len {id : List UInt8} (h : id.length = 32) : (dirL id).length = 10 := by
  have hl := Cb.Cd.hexL_len (id.take 1)
  simp only [dirL, List.length_append, List.length_cons, hl, List.length_take]
  simp [objL]
  omega
theorem ne_len {a b : List UInt8} (h : a.length ≠ b.length) : Vc.bs a ≠ Vc.bs b := fun e => h (by rw [bsL_inj e])
end Go.Proofs.YtbmhhlkjgnijgaaGreatDoor.Lo
namespace Go.Proofs.YtbmhhlkjgnijgaaGreatDoor.Lo
open Vc Go.RowKit Go.Shelf
/-- What is laid ahead of all, and is not touched. -/
def Okn (n0 : Nat) (w : World) : Prop := ∃ W : World, Ob.Ok W ∧ W.heap.size ≤ n0 ∧ Below W.heap.size W w
theorem Okn.ok {n0 : Nat} {w : World} (h : Okn n0 w) : Ob.Ok w := by
  obtain ⟨W, h1, _, h3⟩ := h
  exact h1.below h3
theorem Okn.step {n0 : Nat} {w w' : World} (h : Okn n0 w) (hb : Below n0 w w') : Okn n0 w' := by
  obtain ⟨W, h1, h2, h3⟩ := h
  exact ⟨W, h1, h2, h3.trans (hb.mono h2)⟩
theorem cat_bs (a b : List UInt8) : Vc.bs a ++ Vc.bs b = Vc.bs (a ++ b) := by
  rw [← Vc.bs_data (Vc.bs a ++ Vc.bs b), ByteArray.data_append, Array.toList_append, Vc.bs_list, Vc.bs_list]
theorem hex_c (l : List UInt8) (hl : l.length ≤ 400) (w : World) : Calls Tryz.prog 40 #[.string (Vc.bs l)] w fun e w' => e = .returned (.string (Vc.bs (Cb.Cd.hexL l))) ∧ Below w.heap.size w w' := by
  have := Cb.hex_any (Vc.bs l) w (by rw [Vc.bs_size]; exact hl)
  rw [Vc.bs_list] at this
  exact this
theorem ext_bs (l : List UInt8) (a b : Nat) : (Vc.bs l).extract a b = Vc.bs (l.extract a b) := by
  rw [← Vc.bs_data (ByteArray.extract _ _ _), ByteArray.data_extract, Array.toList_extract, Vc.bs_list]
set_option maxHeartbeats 800000 in
set_option maxRecDepth 100000 in
theorem folder_any (id : List UInt8) (h : id.length = 32) (w : World) : Calls Tryz.prog 39 #[.string (Vc.bs id)] w fun e w' => e = .returned (.string (dirP id)) ∧ Below w.heap.size w w' := by
  have e1 : (Vc.bs id).extract 0 1 = Vc.bs (id.take 1) := by rw [ext_bs]; simp [List.extract]
  have HX := hideIt (hex_c (id.take 1) (by simp; omega) w)
  have HE : Hid (dirP id = ⟨#[111, 98, 106, 101, 99, 116, 115, 47]⟩ ++ Vc.bs (Cb.Cd.hexL (id.take 1))) := hideIt (by
    show Vc.bs _ = Vc.bs [111, 98, 106, 101, 99, 116, 115, 47] ++ _
    rw [cat_bs]
    rfl)
  have hs : (Vc.bs id).size = 32 := by rw [Vc.bs_size, h]
  have hs2 : ((Vc.bs id).size : Int) = 32 := by omega
  have hl : (Cb.Cd.hexL (id.take 1)).length = 2 := by rw [Cb.Cd.hexL_len]; simp; omega
  have hl2 : (Vc.bs (Cb.Cd.hexL (id.take 1))).size = 2 := by rw [Vc.bs_size, hl]
  rw [HE.out]
  go_enter Tryz.func39, Tryz.ntmps39
  go_wp2_with (first | (go_at_call 40; refine HX.out.mono ?_; rintro e w1 ⟨rfl, hb1⟩))
  go_ret
  exact ⟨rfl, hb1⟩
set_option maxHeartbeats 800000 in
set_option maxRecDepth 100000 in
theorem path_any (id : List UInt8) (h : id.length = 32) (w : World) : Calls Tryz.prog 17 #[.string (Vc.bs id)] w fun e w' => e = .returned (.string (fileP id)) ∧ Below w.heap.size w w' := by
  have hs : (Vc.bs id).size = 32 := by rw [Vc.bs_size, h]
  have hs2 : ((Vc.bs id).size : Int) = 32 := by omega
  have e1 : (Vc.bs id).extract 1 32 = Vc.bs (id.drop 1) := by rw [ext_bs]; simp [List.extract]; rw [List.take_of_length_le (by simp; omega)]
  have HX := hideIt (fun w => hex_c (id.drop 1) (by simp; omega) w)
  have HD := hideIt (fun w => folder_any id h w)
  have HE : Hid (fileP id = dirP id ++ ⟨#[47]⟩ ++ Vc.bs (Cb.Cd.hexL (id.drop 1))) := hideIt (by
    show Vc.bs _ = Vc.bs (dirL id) ++ Vc.bs [47] ++ _
    rw [cat_bs, cat_bs]
    simp [fileL])
  have hl : (Cb.Cd.hexL (id.drop 1)).length = 62 := by rw [Cb.Cd.hexL_len]; simp; omega
  have hl2 : (Vc.bs (Cb.Cd.hexL (id.drop 1))).size = 62 := by rw [Vc.bs_size, hl]
  have hl3 : (dirP id).size = 10 := by rw [dirP, Vc.bs_size, dir_len h]
  rw [HE.out]
  obtain ⟨I, hI⟩ : ∃ I, Vc.bs id = I := ⟨_, rfl⟩
  obtain ⟨T, hT⟩ : ∃ T, Vc.bs (id.drop 1) = T := ⟨_, rfl⟩
  obtain ⟨d, hd⟩ : ∃ d, dirP id = d := ⟨_, rfl⟩
  obtain ⟨x, hx⟩ : ∃ x, Vc.bs (Cb.Cd.hexL (id.drop 1)) = x := ⟨_, rfl⟩
  rw [hI] at hs hs2 e1 HD ⊢
  rw [hT] at e1 HX
  rw [hd] at HD hl3 ⊢
  rw [hx] at HX hl2 ⊢
  clear hI hT hd hx HE hl h
  have HB0 : Hid (Below w.heap.size w w.drew) := hideIt (Below.refl _ _).drew
  go_enter Tryz.func17, Tryz.ntmps17
  go_wp2
  go_region_held3 (fun X => Below w.heap.size w X) (first | exact HB0.out | assumption | (exact Ob.below2 (by assumption) hb1) | (exact Ob.below2 (by assumption) hb2)) (first | (go_at_call 39; refine (HD.out _).mono ?_; rintro e w1 ⟨rfl, hb1⟩) | (go_at_call 40; refine (HX.out _).mono ?_; rintro e w2 ⟨rfl, hb2⟩))
  go_wp2
  go_ret
  exact ⟨rfl, by assumption⟩
set_option maxHeartbeats 800000 in
set_option maxRecDepth 100000 in
theorem path_none (id : ByteArray) (h : id.size ≠ 32) (w : World) : Calls Tryz.prog 17 #[.string id] w fun e w' => e = .returned (.string ⟨#[]⟩) ∧ w' = w := by
  have e1 : ((id.size : Int) == 32) = false := by rw [beq_eq_false_iff_ne]; omega
  have e2 : ¬ (id.size : Int) = 32 := by omega
  have e3 : ((id.size : Int) != 32) = true := by rw [bne, e1]; rfl
  go_enter Tryz.func17, Tryz.ntmps17
  go_wp2
  go_ret
  exact ⟨rfl, rfl⟩
/-- The state of a walk: the picture, what is laid ahead, and how all came to be. -/
structure St (pl : Value) (n0 : Nat) (A : Nat → Prop) (b : Nat) (w : World) (fb : Nat) (S : Fs) : Prop where
  rep : Rep pl n0 A b w fb S
  ok : Okn n0 w
def StTo (pl : Value) (n0 : Nat) (A : Nat → Prop) (b : Nat) (w : World) (fb : Nat) (S : Fs) (w' : World) : Prop := ∃ A2 : Nat → Prop, (∀ g, A2 g → A g ∨ w.heap.size ≤ g) ∧ St pl n0 A2 b w' fb S ∧ Out A w w'
section
variable {pl : Value} {n0 : Nat} {A A2 : Nat → Prop} {b b' : Nat} {w w' w1 : World} {fb : Nat} {S S' : Fs}
theorem St.to (h : St pl n0 A b w fb S) (hr : RepTo pl n0 A b' w fb S' w') : StTo pl n0 A b' w fb S' w' := by
  obtain ⟨A3, h1, h2, h3⟩ := hr
  exact ⟨A3, h1, ⟨h2, h.ok.step (h3.below h.rep.nw h.rep.lo)⟩, h3⟩
theorem St.kept (h : St pl n0 A b w fb S) (hk : Kept [] w w') : St pl n0 A b w' fb S := ⟨h.rep.keep hk, h.ok.step ((Out.kept (A := A) hk).below h.rep.nw h.rep.lo)⟩
theorem StTo.step (hA : ∀ g, A2 g → A g ∨ w.heap.size ≤ g) (hO : Out A w w1) (k : StTo pl n0 A2 b w1 fb S w') : StTo pl n0 A b w fb S w' := by
  obtain ⟨A3, k1, k2, k3⟩ := k
  refine ⟨A3, fun g hg => ?_, k2, hO.trans k3 hA⟩
  rcases k1 g hg with e | e
  · exact hA g e
  · exact .inr (Nat.le_trans hO.size e)
theorem StTo.kept (h : St pl n0 A b w fb S) (hk : Kept [] w w') : StTo pl n0 A b w fb S w' := ⟨A, fun _ hg => .inl hg, h.kept hk, Out.kept hk⟩
theorem Kept.bel {w w' : World} (h : Below w.heap.size w w') : Kept [] w w' := Kept.of_below h
end
end Go.Proofs.YtbmhhlkjgnijgaaGreatDoor.Lo
namespace Go.Proofs.YtbmhhlkjgnijgaaGreatDoor.Lo
open Vc Go.RowKit Go.Shelf
abbrev P0 : Value := .slice none 0 0
section
variable {n0 : Nat} {A : Nat → Prop} {b : Nat} {w w' : World} {fb : Nat} {S : Fs}
set_option maxHeartbeats 800000 in
set_option maxRecDepth 100000 in
/-- The folder is there. -/
theorem mf_there (h : St P0 n0 A b w fb S) (q p : ByteArray) (hp : p.size ≤ 140737488355328) (hE : S.syE p = 31) :
    Calls Tryz.prog 50 #[.pointer (some ⟨fb, 0, none⟩), .string q, .string p] w fun e w' => e = .returned (.int .i64 0) ∧ Kept [] w w' := by
  have HR : Hid (Calls Tryz.prog 35 #[.pointer (some ⟨fb, 0, none⟩), .string p] w fun e w' => e = .returned (.tuple #[.string ⟨#[]⟩, .int .i64 31]) ∧ Kept [] w w') := hideIt ((read_rep h.rep (calm_nil _ _) p hp).mono fun e w' ⟨hk, hr⟩ => by
    rcases hr with ⟨_, he⟩ | ⟨h0, _⟩
    · rw [hE] at he; exact ⟨he, hk⟩
    · rw [hE] at h0; cases h0)
  clear h hE
  go_enter Tryz.func50, Tryz.ntmps50
  go_wp2_with (first | (go_at_call 35; refine HR.out.mono ?_; rintro e w1 ⟨rfl, hk1⟩))
  go_ret
  exact ⟨rfl, hk1⟩
set_option maxHeartbeats 800000 in
set_option maxRecDepth 100000 in
/-- The folder is made, for sure. -/
theorem mf_made (h : St P0 n0 A b w fb S) (hb : b < 890) (q p : ByteArray) (hq : q.size ≤ 140737488355328) (hp : p.size ≤ 140737488355328) (hE : S.syE p ≠ 31) (hE0 : S.syE p ≠ 0) (hM : S.mkE p = 0) (hN : (S.enact ⟨0, p, ⟨#[]⟩, none⟩).nfE q = 0) :
    Calls Tryz.prog 50 #[.pointer (some ⟨fb, 0, none⟩), .string q, .string p] w fun e w' => e = .returned (.int .i64 0) ∧ StTo P0 n0 A (b + 2) w fb ((S.enact ⟨0, p, ⟨#[]⟩, none⟩).syncDir q) w' := by
  obtain ⟨E, hEE⟩ : ∃ E, S.syE p = E := ⟨_, rfl⟩
  rw [hEE] at hE hE0
  have x1 : (E == 31) = false := by rw [beq_eq_false_iff_ne]; exact hE
  have HR : Hid (Calls Tryz.prog 35 #[.pointer (some ⟨fb, 0, none⟩), .string p] w fun e w' => e = .returned (.tuple #[.string ⟨#[]⟩, .int .i64 E]) ∧ St P0 n0 A b w' fb S ∧ Out A w w') := hideIt ((read_rep h.rep (calm_nil _ _) p hp).mono fun e w' ⟨hk, hr⟩ => by
    rcases hr with ⟨_, he⟩ | ⟨h0, _⟩
    · rw [hEE] at he; exact ⟨he, h.kept hk, Out.kept hk⟩
    · rw [hEE] at h0; exact absurd h0 hE0)
  have HM : Hid (∀ X, St P0 n0 A b X fb S → Out A w X → Calls Tryz.prog 99 #[.pointer (some ⟨fb, 0, none⟩), .string p] X fun e w' => e = .returned (.int .i64 0) ∧ StTo P0 n0 A (b + 1) w fb (S.enact ⟨0, p, ⟨#[]⟩, none⟩) w') := hideIt (fun X hX hO => (mkdir_rep hX.rep (by omega) (calm_nil _ _) p hp).mono fun e w' ⟨he, hr⟩ => by
    rw [hM] at he
    rcases hr with ⟨h0, _⟩ | ⟨_, S', rfl, hR⟩
    · exact absurd hM h0
    · exact ⟨he, StTo.step (fun _ hg => .inl hg) hO (hX.to hR)⟩)
  have HS : Hid (∀ X, StTo P0 n0 A (b + 1) w fb (S.enact ⟨0, p, ⟨#[]⟩, none⟩) X → Calls Tryz.prog 41 #[.pointer (some ⟨fb, 0, none⟩), .string q] X fun e w' => e = .returned (.int .i64 0) ∧ StTo P0 n0 A (b + 2) w fb ((S.enact ⟨0, p, ⟨#[]⟩, none⟩).syncDir q) w') := hideIt (fun X ⟨A2, k1, k2, k3⟩ => (syncDir_rep k2.rep (by omega) (calm_nil _ _) q hq).mono fun e w' ⟨he, hr⟩ => by
    rw [hN] at he
    rcases hr with ⟨h0, _⟩ | ⟨_, S', rfl, hR⟩
    · exact absurd hN h0
    · exact ⟨he, StTo.step k1 k3 (k2.to hR)⟩)
  clear h hE hE0 hM hN hEE
  go_enter Tryz.func50, Tryz.ntmps50
  go_wp2_with (first | (go_at_call 35; refine HR.out.mono ?_; rintro e w1 ⟨rfl, hs1, ho1⟩) | (go_at_call 99; refine (HM.out _ hs1 ho1).mono ?_; rintro e w2 ⟨rfl, hs2⟩) | (go_at_call 41; refine (HS.out _ hs2).mono ?_; rintro e w3 ⟨rfl, hs3⟩))
  go_ret
  exact ⟨rfl, hs3⟩
end
end Go.Proofs.YtbmhhlkjgnijgaaGreatDoor.Lo
namespace Go.Proofs.YtbmhhlkjgnijgaaGreatDoor.Lo
open Vc Go.RowKit Go.Shelf
/-- Names of the folder of all alone. -/
def baseN : Nm := fun q => if q = objP then some none else none
def baseS (room : Nat) : Fs := ⟨baseN, baseN, [], fun _ => ⟨⟨#[]⟩, ⟨#[]⟩⟩, 0, 0, room, 3⟩
theorem objP_size : objP.size = 7 := by decide +kernel
theorem incP_size : incP.size = 16 := by decide +kernel
theorem obj_ne_inc : objP ≠ incP := ne_len (by decide)
theorem doN_comes {n : Nm} {p : ByteArray} {f : Option Nat} {t : ByteArray} (h1 : n p = none) (h2 : isDir n (dirOf p) = true) : doN n ⟨0, p, t, f⟩ = fun q => if q = p then some f else n q := by
  unfold doN
  rw [if_pos rfl, if_pos ⟨h1, h2⟩]
theorem isDir_root (n : Nm) : isDir n ⟨#[]⟩ = true := rfl
theorem do_obj : doN (fun _ => none) ⟨0, objP, ⟨#[]⟩, none⟩ = baseN := by
  rw [doN_comes rfl (by rw [dir_obj]; rfl)]
  rfl
theorem in_obj_root : inP ⟨#[]⟩ ⟨0, objP, ⟨#[]⟩, none⟩ = true := by
  unfold inP inB
  rw [show dirOf (⟨0, objP, ⟨#[]⟩, none⟩ : Pa).p = ⟨#[]⟩ from dir_obj]
  simp
theorem open1 (room : Nat) : ((noFs room).enact ⟨0, objP, ⟨#[]⟩, none⟩).syncDir ⟨#[]⟩ = ⟨baseN, baseN, [], fun _ => ⟨⟨#[]⟩, ⟨#[]⟩⟩, 0, 0, room, 2⟩ := by
  unfold Fs.syncDir Fs.enact
  simp only [noFs, List.nil_append, do_obj]
  simp [in_obj_root, do_obj]
theorem open2 (room : Nat) : (⟨baseN, baseN, [], fun _ => ⟨⟨#[]⟩, ⟨#[]⟩⟩, 0, 0, room, 2⟩ : Fs).syncDir objP = baseS room := rfl
theorem toL_eq (a b : ByteArray) : (a.toList == b.toList) = decide (a = b) := by
  by_cases h : a = b
  · subst h; simp
  · rw [decide_eq_false h, beq_eq_false_iff_ne]
    intro e
    rw [ByteArray.toList_eq, ByteArray.toList_eq] at e
    exact h (ba_eq.2 e)
section
variable {n0 : Nat} {A : Nat → Prop} {b : Nat} {w w' : World} {fb room : Nat} {S : Fs}
theorem nf_of {q : ByteArray} (hq : pathL q.data.toList = true) (hd : S.now q = some none) : S.nfE q = 0 := by
  unfold Fs.nfE
  split
  · rfl
  · have : isDir S.now q = true := by unfold isDir; rw [hd]; simp
    rw [this]
    rfl
theorem nf_root : S.nfE ⟨#[]⟩ = 0 := rfl
theorem sy_dir {q : ByteArray} (hq : pathL q.data.toList = true) (hd : S.now q = some none) : S.syE q = 31 := by
  unfold Fs.syE pvN
  rw [if_pos hq, hd]
  rfl
theorem sy_none {q : ByteArray} (hq : pathL q.data.toList = true) (hd : S.now q = none) : S.syE q = 2 := by
  unfold Fs.syE
  rw [if_pos hq, hd]
  rfl
theorem rm_none {q : ByteArray} (hq : pathL q.data.toList = true) (hd : S.now q = none) : S.rmE q = 2 := by
  unfold Fs.rmE
  rw [if_pos hq, hd]
  rfl
theorem objP_path : pathL objP.data.toList = true := by rw [objP, Vc.bs_list]; exact obj_path
theorem incP_path : pathL incP.data.toList = true := by rw [incP, Vc.bs_list]; exact inc_path
set_option maxHeartbeats 800000 in
set_option maxRecDepth 100000 in
theorem mf_fresh (h : NewAt w fb room) (ho : Okn n0 w) (hr : room ≤ 1000000000000000) (hn : 0 < n0) (hf0 : n0 ≤ fb) :
    Calls Tryz.prog 50 #[.pointer (some ⟨fb, 0, none⟩), .string ⟨#[]⟩, .string objP] w fun e w' => e = .returned (.int .i64 0) ∧ StTo P0 n0 (fun g => g = fb) 2 w fb ⟨baseN, baseN, [], fun _ => ⟨⟨#[]⟩, ⟨#[]⟩⟩, 0, 0, room, 2⟩ w' := by
  have hlt := block_lt h
  have hsz : objP.size ≤ 140737488355328 := by rw [objP_size]; decide
  have HR : Hid (Calls Tryz.prog 35 #[.pointer (some ⟨fb, 0, none⟩), .string objP] w fun e w' => e = .returned (.tuple #[.string ⟨#[]⟩, .int .i64 2]) ∧ Kept [] w w') := hideIt (read_fresh h ho.ok.max objP hsz objP_path)
  have HM : Hid (∀ X, Kept [] w X → Calls Tryz.prog 99 #[.pointer (some ⟨fb, 0, none⟩), .string objP] X fun e w' => e = .returned (.int .i64 0) ∧ StTo P0 n0 (fun g => g = fb) 1 w fb ((noFs room).enact ⟨0, objP, ⟨#[]⟩, none⟩) w') := hideIt (fun X hX => by
    have hb : Below n0 w X := (Out.kept (A := fun g => g = fb) hX).below (by omega) (fun g hg => by omega)
    have ho' := ho.step hb
    refine (mkdir_fresh (n0 := n0) (hX.fs h (by simp)) ho'.ok.max hr hn hf0 objP hsz objP_path (by rw [dir_obj])).mono fun e w' ⟨he, A2, k1, k2, k3⟩ => ⟨he, ?_⟩
    have h1 := hX.size
    exact StTo.step (A2 := fun g => g = fb) (fun g hg => .inl hg) (Out.kept hX) ⟨A2, k1, ⟨k2, ho'.step (k3.below (by omega) (fun g hg => by omega))⟩, k3⟩)
  have HS : Hid (∀ X, StTo P0 n0 (fun g => g = fb) 1 w fb ((noFs room).enact ⟨0, objP, ⟨#[]⟩, none⟩) X → Calls Tryz.prog 41 #[.pointer (some ⟨fb, 0, none⟩), .string ⟨#[]⟩] X fun e w' => e = .returned (.int .i64 0) ∧ StTo P0 n0 (fun g => g = fb) 2 w fb ⟨baseN, baseN, [], fun _ => ⟨⟨#[]⟩, ⟨#[]⟩⟩, 0, 0, room, 2⟩ w') := hideIt (fun X ⟨A2, k1, k2, k3⟩ => (syncDir_rep k2.rep (by omega) (calm_nil _ _) ⟨#[]⟩ (by decide)).mono fun e w' ⟨he, hr⟩ => by
    rw [nf_root] at he
    rcases hr with ⟨h0, _⟩ | ⟨_, S', rfl, hR⟩
    · exact absurd nf_root h0
    · rw [open1] at hR
      exact ⟨he, StTo.step k1 k3 (k2.to hR)⟩)
  clear h ho
  generalize objP = op at HR HM HS ⊢
  go_enter Tryz.func50, Tryz.ntmps50
  go_wp2_with (first | (go_at_call 35; refine HR.out.mono ?_; rintro e w1 ⟨rfl, hs1⟩) | (go_at_call 99; refine (HM.out _ hs1).mono ?_; rintro e w2 ⟨rfl, hs2⟩) | (go_at_call 41; refine (HS.out _ hs2).mono ?_; rintro e w3 ⟨rfl, hs3⟩))
  go_ret
  exact ⟨rfl, hs3⟩
/-- What comes behind the folder: nothing is coming in. -/
theorem open_tail (h : St P0 n0 A b w fb S) (hb : b < 890) (hobj : S.now objP = some none) (hinc : S.now incP = none) :
    (Calls Tryz.prog 37 #[.pointer (some ⟨fb, 0, none⟩), .string incP] w fun e w' => e = .returned (.int .i64 2) ∧ Kept [] w w') ∧
    ∀ X, Kept [] w X → Calls Tryz.prog 41 #[.pointer (some ⟨fb, 0, none⟩), .string objP] X fun e w' => e = .returned (.int .i64 0) ∧ StTo P0 n0 A (b + 1) w fb (S.syncDir objP) w' := by
  have e2 := rm_none incP_path hinc
  have e0 : S.nfE objP = 0 := nf_of objP_path hobj
  refine ⟨(remove_rep h.rep (by omega) (calm_nil _ _) incP (by rw [incP_size]; decide)).mono fun e w' ⟨he, hr⟩ => ?_, fun X hX => (syncDir_rep (h.kept hX).rep (by omega) (calm_nil _ _) objP (by rw [objP_size]; decide)).mono fun e w' ⟨he, hr⟩ => ?_⟩
  · rw [e2] at he
    rcases hr with ⟨_, hk⟩ | ⟨h0, _⟩
    · exact ⟨he, hk⟩
    · rw [e2] at h0; cases h0
  · rw [e0] at he
    rcases hr with ⟨h0, _⟩ | ⟨_, S', rfl, hR⟩
    · exact absurd e0 h0
    · exact ⟨he, StTo.step (fun _ hg => .inl hg) (Out.kept hX) ((h.kept hX).to hR)⟩
set_option maxHeartbeats 800000 in
set_option maxRecDepth 100000 in
theorem open_fresh (h : NewAt w fb room) (ho : Okn n0 w) (hr : room ≤ 1000000000000000) (hn : 0 < n0) (hf0 : n0 ≤ fb) :
    Calls Tryz.prog 23 #[.pointer (some ⟨fb, 0, none⟩)] w fun e w' => e = .returned (.int .i64 0) ∧ StTo P0 n0 (fun g => g = fb) 3 w fb (baseS room) w' := by
  have HM := hideIt (mf_fresh h ho hr hn hf0)
  have HT : Hid (∀ X, StTo P0 n0 (fun g => g = fb) 2 w fb ⟨baseN, baseN, [], fun _ => ⟨⟨#[]⟩, ⟨#[]⟩⟩, 0, 0, room, 2⟩ X → (Calls Tryz.prog 37 #[.pointer (some ⟨fb, 0, none⟩), .string incP] X fun e w' => e = .returned (.int .i64 2) ∧ Kept [] X w') ∧
    ∀ Y, Kept [] X Y → Calls Tryz.prog 41 #[.pointer (some ⟨fb, 0, none⟩), .string objP] Y fun e w' => e = .returned (.int .i64 0) ∧ StTo P0 n0 (fun g => g = fb) 3 w fb (baseS room) w') := hideIt (fun X ⟨A2, k1, k2, k3⟩ => by
    obtain ⟨t1, t2⟩ := open_tail k2 (by omega) (show baseN objP = some none by simp [baseN]) (show baseN incP = none by simp [baseN, Ne.symm obj_ne_inc])
    exact ⟨t1, fun Y hY => (t2 Y hY).mono fun e w' ⟨he, hs⟩ => ⟨he, StTo.step k1 k3 hs⟩⟩)
  clear h ho
  have ei : (⟨#[111, 98, 106, 101, 99, 116, 115, 47, 105, 110, 99, 111, 109, 105, 110, 103]⟩ : ByteArray) = incP := by decide +kernel
  have eo : (⟨#[111, 98, 106, 101, 99, 116, 115]⟩ : ByteArray) = objP := by decide +kernel
  generalize incP = ip at HT ei
  generalize objP = op at HM HT eo
  subst ei eo
  go_enter Tryz.func23, Tryz.ntmps23
  go_wp2_with (first | (go_at_call 50; refine HM.out.mono ?_; rintro e w1 ⟨rfl, hs1⟩; obtain ⟨t1, t2⟩ := HT.out w1 hs1; have T1 := hideIt t1; have T2 := hideIt t2; clear t1 t2) | (go_at_call 37; refine T1.out.mono ?_; rintro e w2 ⟨rfl, hk2⟩) | (go_at_call 41; refine (T2.out _ hk2).mono ?_; rintro e w3 ⟨rfl, hs3⟩))
  go_ret
  exact ⟨rfl, hs3⟩
set_option maxHeartbeats 800000 in
set_option maxRecDepth 100000 in
theorem open_there (h : St P0 n0 A b w fb S) (hb : b < 880) (hobj : S.now objP = some none) (hinc : S.now incP = none) :
    Calls Tryz.prog 23 #[.pointer (some ⟨fb, 0, none⟩)] w fun e w' => e = .returned (.int .i64 0) ∧ StTo P0 n0 A (b + 1) w fb (S.syncDir objP) w' := by
  have HM := hideIt (mf_there h ⟨#[]⟩ objP (by rw [objP_size]; decide) (sy_dir objP_path hobj))
  have HT : Hid (∀ X, Kept [] w X → (Calls Tryz.prog 37 #[.pointer (some ⟨fb, 0, none⟩), .string incP] X fun e w' => e = .returned (.int .i64 2) ∧ Kept [] X w') ∧
    ∀ Y, Kept [] X Y → Calls Tryz.prog 41 #[.pointer (some ⟨fb, 0, none⟩), .string objP] Y fun e w' => e = .returned (.int .i64 0) ∧ StTo P0 n0 A (b + 1) w fb (S.syncDir objP) w') := hideIt (fun X hX => by
    obtain ⟨t1, t2⟩ := open_tail (h.kept hX) (by omega) hobj hinc
    exact ⟨t1, fun Y hY => (t2 Y hY).mono fun e w' ⟨he, hs⟩ => ⟨he, StTo.step (fun _ hg => .inl hg) (Out.kept hX) hs⟩⟩)
  clear h hobj hinc
  have ei : (⟨#[111, 98, 106, 101, 99, 116, 115, 47, 105, 110, 99, 111, 109, 105, 110, 103]⟩ : ByteArray) = incP := by decide +kernel
  have eo : (⟨#[111, 98, 106, 101, 99, 116, 115]⟩ : ByteArray) = objP := by decide +kernel
  generalize S.syncDir objP = S2 at HT ⊢
  generalize incP = ip at HT ei
  generalize objP = op at HM HT eo
  subst ei eo
  go_enter Tryz.func23, Tryz.ntmps23
  go_wp2_with (first | (go_at_call 50; refine HM.out.mono ?_; rintro e w1 ⟨rfl, hs1⟩; obtain ⟨t1, t2⟩ := HT.out w1 hs1; have T1 := hideIt t1; have T2 := hideIt t2; clear t1 t2) | (go_at_call 37; refine T1.out.mono ?_; rintro e w2 ⟨rfl, hk2⟩) | (go_at_call 41; refine (T2.out _ hk2).mono ?_; rintro e w3 ⟨rfl, hs3⟩))
  go_ret
  exact ⟨rfl, hs3⟩
end
end Go.Proofs.YtbmhhlkjgnijgaaGreatDoor.Lo
namespace Go.Proofs.YtbmhhlkjgnijgaaGreatDoor.Lo
open Vc Go.RowKit Go.Shelf
theorem fin_len {n : Nat} {T L : List UInt8} (h : T.length ≤ n) : (Ld.Lz.fin T L).2.length ≤ n := by
  unfold Ld.Lz.fin
  split
  · exact h
  · exact Nat.zero_le _
theorem spF_len (n : Nat) : ∀ (f : Nat) (T L : List UInt8), T.length ≤ n → (Ld.Lz.spF Ld.Lz.aga n f T L).2.length ≤ n
  | 0, _, _, _ => Nat.zero_le _
  | f + 1, T, L, h => by
    rw [Ld.Lz.spF]
    split
    · rename_i hlt
      split
      · exact Nat.zero_le _
      · rename_i h1
        have h1' : (Ld.Lz.alo (n - T.length) T L).1 = 0 := by simpa using h1
        have ha := Ld.Lz.alo_len h1'
        split
        · rename_i h2
          exact fin_len (by omega)
        · split
          · exact Nat.zero_le _
          · rename_i h3
            have h3' : (Ld.Lz.aga (n - (Ld.Lz.alo (n - T.length) T L).2.1.length) (Ld.Lz.alo (n - T.length) T L).2.1 (Ld.Lz.alo (n - T.length) T L).2.2).1 = 0 := by simpa using h3
            have hg := Ld.Lz.aga_len h3'
            exact spF_len n f _ _ (by omega)
    · exact fin_len h
theorem sp_len (p : List UInt8) : (Ld.Lz.spP p 1048576).2.length ≤ 1048576 := by
  unfold Ld.Lz.spP Ld.Lz.spA
  split
  · exact Nat.zero_le _
  · rename_i h1
    split
    · exact Nat.zero_le _
    · rename_i h2
      exact Nat.le_trans (spF_len _ _ _ _ (Nat.zero_le _)) (by omega)
theorem spread_c (p : ByteArray) (w : World) (hp : p.size ≤ 100000000) : Calls Tryz.prog 36 #[.string p, .int .i64 1048576] w fun e w' => e = .returned (.tuple #[.string (Vc.bs (Ld.Lz.spP p.data.toList 1048576).2), .int .i64 ((Ld.Lz.spP p.data.toList 1048576).1 : Int)]) ∧ Below w.heap.size w w' := by
  have := Ld.spread_gen p.data.toList 1048576 w (by rw [Vc.str_len]; exact hp)
  rw [show Cb.bs p.data.toList = p from Vc.bs_data p] at this
  exact this
/-- What bytes tell of an id: its object, or nothing. -/
def getR (p : ByteArray) (id : List UInt8) : Option (List UInt8) := if (Ld.Lz.spP p.data.toList 1048576).1 = 0 ∧ (Sa.Sha.sha (Ld.Lz.spP p.data.toList 1048576).2) = Vc.bs id then some (Ld.Lz.spP p.data.toList 1048576).2 else none
def getV : Option (List UInt8) → Value
  | some r => .tuple #[.string (Vc.bs r), .int .i64 0]
  | none => .tuple #[.string ⟨#[]⟩, .int .i64 80]
theorem kept_below {w w1 w2 : World} (h : Kept [] w w1) (k : Below w1.heap.size w1 w2) : Kept [] w w2 := (h.trans (Kept.of_below k)).sub (by simp)
theorem below_kept {w w1 w2 : World} (h : Below w.heap.size w w1) (k : Kept [] w1 w2) : Kept [] w w2 := ((Kept.of_below h).trans k).sub (by simp)
theorem fileP_size {id : List UInt8} (h : id.length = 32) : (fileP id).size = 73 := by rw [fileP, Vc.bs_size, file_len h]
theorem fileP_path {id : List UInt8} (h : id.length = 32) : pathL (fileP id).data.toList = true := by rw [fileP, Vc.bs_list]; exact file_path h
theorem dirP_size {id : List UInt8} (h : id.length = 32) : (dirP id).size = 10 := by rw [dirP, Vc.bs_size, dir_len h]
theorem dirP_path {id : List UInt8} (h : id.length = 32) : pathL (dirP id).data.toList = true := by rw [dirP, Vc.bs_list]; exact dir_path h
section
variable {pl : Value} {n0 : Nat} {A : Nat → Prop} {b : Nat} {w w' : World} {fb room : Nat} {S : Fs}
theorem sy_file {q : ByteArray} {x : Nat} (hq : pathL q.data.toList = true) (hd : S.now q = some (some x)) : S.syE q = 0 := by
  unfold Fs.syE pvN
  rw [if_pos hq, hd]
  rfl
set_option maxHeartbeats 800000 in
set_option maxRecDepth 100000 in
theorem get_err (id : List UInt8) (h : id.length = 32) (E : Int) (hE : E = 2 ∨ E = 7) (HR : ∀ X, Kept [] w X → Calls Tryz.prog 35 #[.pointer (some ⟨fb, 0, none⟩), .string (fileP id)] X fun e w' => e = .returned (.tuple #[.string ⟨#[]⟩, .int .i64 E]) ∧ Kept [] X w') :
    Calls Tryz.prog 14 #[.pointer (some ⟨fb, 0, none⟩), .string (Vc.bs id)] w fun e w' => e = .returned (.tuple #[.string ⟨#[]⟩, .int .i64 E]) ∧ Kept [] w w' := by
  have HP := hideIt (path_any id h w)
  have HRD := hideIt HR
  clear HR h
  generalize fileP id = q at HP HRD
  generalize Vc.bs id = i at HP ⊢
  rcases hE with rfl | rfl
  · go_enter Tryz.func14, Tryz.ntmps14
    go_wp2_with (first | (go_at_call 17; refine HP.out.mono ?_; rintro e w1 ⟨rfl, hb1⟩) | (go_at_call 35; refine (HRD.out _ (Kept.of_below hb1)).mono ?_; rintro e w2 ⟨rfl, hk2⟩))
    go_ret2
    exact ⟨rfl, below_kept hb1 hk2⟩
  · go_enter Tryz.func14, Tryz.ntmps14
    go_wp2_with (first | (go_at_call 17; refine HP.out.mono ?_; rintro e w1 ⟨rfl, hb1⟩) | (go_at_call 35; refine (HRD.out _ (Kept.of_below hb1)).mono ?_; rintro e w2 ⟨rfl, hk2⟩))
    go_ret2
    exact ⟨rfl, below_kept hb1 hk2⟩
/-- Nothing is there. -/
theorem get_gone (h : St P0 n0 A b w fb S) (id : List UInt8) (hl : id.length = 32) (hn : S.now (fileP id) = none) :
    Calls Tryz.prog 14 #[.pointer (some ⟨fb, 0, none⟩), .string (Vc.bs id)] w fun e w' => e = .returned (.tuple #[.string ⟨#[]⟩, .int .i64 2]) ∧ Kept [] w w' :=
  get_err id hl 2 (.inl rfl) fun X hX => (read_rep (h.rep.keep hX) (calm_nil _ _) (fileP id) (by rw [fileP_size hl]; decide)).mono fun e w' ⟨hk, hr⟩ => by
    have e2 : S.syE (fileP id) = 2 := sy_none (fileP_path hl) hn
    rcases hr with ⟨_, he⟩ | ⟨h0, _⟩
    · rw [e2] at he; exact ⟨he, hk⟩
    · rw [e2] at h0; cases h0
/-- Without power. -/
theorem get_off {nb : Nat} {sv dv uv : Value} {came used room steps : Int} (h : FsAt w fb (.map (some nb)) sv dv uv came used room steps true pl) (id : List UInt8) (hl : id.length = 32) :
    Calls Tryz.prog 14 #[.pointer (some ⟨fb, 0, none⟩), .string (Vc.bs id)] w fun e w' => e = .returned (.tuple #[.string ⟨#[]⟩, .int .i64 7]) ∧ Kept [] w w' :=
  get_err id hl 7 (.inr rfl) fun X hX => read_off (hX.fs h (by simp)) (fileP id)
set_option maxHeartbeats 1600000 in
set_option maxRecDepth 100000 in
/-- A file is there: its object, or it is spoilt. -/
theorem get_there (h : St P0 n0 A b w fb S) (id : List UInt8) (hl : id.length = 32) {x : Nat} (hn : S.now (fileP id) = some (some x)) :
    Calls Tryz.prog 14 #[.pointer (some ⟨fb, 0, none⟩), .string (Vc.bs id)] w fun e w' => e = .returned (getV (getR (S.files x).now id)) ∧ Kept [] w w' := by
  have e0 : S.syE (fileP id) = 0 := sy_file (fileP_path hl) hn
  have hx : x < S.came := h.rep.o1 _ x hn
  obtain ⟨p, hp⟩ : ∃ p, (S.files x).now = p := ⟨_, rfl⟩
  have hps : p.size ≤ 100000000 := by
    obtain ⟨b1, b2, b3, done, n1, n2, n3, D1, D2, D3, F, e1, e2, e3, hS, hL⟩ := h.rep.laid
    rw [← hp]
    exact (hL.files x hx).2.2.1
  have HP := hideIt (path_any id hl w)
  have HRD : Hid (∀ X, Kept [] w X → Calls Tryz.prog 35 #[.pointer (some ⟨fb, 0, none⟩), .string (fileP id)] X fun e w' => e = .returned (.tuple #[.string p, .int .i64 0]) ∧ Kept [] X w') := hideIt (fun X hX => (read_rep (h.rep.keep hX) (calm_nil _ _) (fileP id) (by rw [fileP_size hl]; decide)).mono fun e w' ⟨hk, hr⟩ => by
    rcases hr with ⟨h0, _⟩ | ⟨_, y, hy, _, he⟩
    · exact absurd e0 h0
    · rw [hn] at hy
      simp only [Option.some.injEq] at hy
      subst hy
      rw [hp] at he
      exact ⟨he, hk⟩)
  have HS := hideIt (fun w => spread_c p w hps)
  rw [hp]
  have HG : Hid (getR p id = if (Ld.Lz.spP p.data.toList 1048576).1 = 0 ∧ (Sa.Sha.sha (Ld.Lz.spP p.data.toList 1048576).2) = Vc.bs id then some (Ld.Lz.spP p.data.toList 1048576).2 else none) := hideIt rfl
  have hlen : (Ld.Lz.spP p.data.toList 1048576).1 = 0 → (Ld.Lz.spP p.data.toList 1048576).2.length ≤ 1048576 := fun _ => sp_len p.data.toList
  generalize getR p id = G at HG ⊢
  generalize Ld.Lz.spP p.data.toList 1048576 = R at HS HG hlen
  obtain ⟨E, r⟩ := R
  simp only at HS HG hlen
  have HO := hideIt h.ok
  have HO2 : Hid (∀ X, Kept [] w X → Ob.Ok X) := hideIt (fun X hX => (h.kept hX).ok.ok)
  clear h hn e0 hp hx HO hl
  generalize fileP id = q at HP HRD
  generalize Vc.bs id = i at HP HG ⊢
  by_cases hE : E = 0
  · subst hE
    have HI := hideIt (fun X hX => Ob.id_any (Vc.bs r) X (by rw [Vc.bs_size]; have := hlen rfl; omega) (HO2.out X hX))
    rw [show (Vc.bs r).data.toList = r from Vc.bs_list r] at HI
    generalize Sa.Sha.sha r = s at HI HG
    clear hlen
    by_cases hs : s = i
    · have HGV : Hid (G = some r) := hideIt (by rw [HG.out, if_pos ⟨rfl, hs⟩])
      rw [HGV.out]
      have q1 : (s.toList == i.toList) = true := by rw [toL_eq, hs]; simp
      have q2 : (s.toList != i.toList) = false := by rw [bne, q1]; rfl
      clear hs HG
      show Calls _ _ _ _ fun e w' => e = .returned (.tuple #[.string (Vc.bs r), .int .i64 0]) ∧ _
      generalize Vc.bs r = rr at HS HI ⊢
      go_enter Tryz.func14, Tryz.ntmps14
      go_wp2_with (first | (go_at_call 17; refine HP.out.mono ?_; rintro e w1 ⟨rfl, hb1⟩) | (go_at_call 35; refine (HRD.out _ (Kept.of_below hb1)).mono ?_; rintro e w2 ⟨rfl, hk2⟩; have HK2 := hideIt (below_kept hb1 hk2); clear hk2) | (go_at_call 36; refine (HS.out _).mono ?_; rintro e w3 ⟨rfl, hb3⟩; have HK3 := hideIt (kept_below HK2.out hb3); clear hb3) | (go_at_call 29; refine (HI.out _ HK3.out).mono ?_; rintro e w4 ⟨rfl, hb4⟩))
      go_ret2
      exact ⟨rfl, kept_below HK3.out hb4⟩
    · have HGV : Hid (G = none) := hideIt (by rw [HG.out, if_neg (fun h => hs h.2)])
      rw [HGV.out]
      have q1 : (s.toList == i.toList) = false := by rw [toL_eq]; simp [hs]
      have q2 : (s.toList != i.toList) = true := by rw [bne, q1]; rfl
      have q3 : ¬ s.toList = i.toList := beq_eq_false_iff_ne.1 q1
      clear hs HG
      show Calls _ _ _ _ fun e w' => e = .returned (.tuple #[.string ⟨#[]⟩, .int .i64 80]) ∧ _
      generalize Vc.bs r = rr at HS HI
      go_enter Tryz.func14, Tryz.ntmps14
      go_wp2_with (first | (go_at_call 17; refine HP.out.mono ?_; rintro e w1 ⟨rfl, hb1⟩) | (go_at_call 35; refine (HRD.out _ (Kept.of_below hb1)).mono ?_; rintro e w2 ⟨rfl, hk2⟩; have HK2 := hideIt (below_kept hb1 hk2); clear hk2) | (go_at_call 36; refine (HS.out _).mono ?_; rintro e w3 ⟨rfl, hb3⟩; have HK3 := hideIt (kept_below HK2.out hb3); clear hb3) | (go_at_call 29; refine (HI.out _ HK3.out).mono ?_; rintro e w4 ⟨rfl, hb4⟩))
      go_ret2
      exact ⟨rfl, kept_below HK3.out hb4⟩
  · have HGV : Hid (G = none) := hideIt (by rw [HG.out, if_neg (fun h => hE h.1)])
    rw [HGV.out]
    have q1 : ((E : Int) == 0) = false := by rw [beq_eq_false_iff_ne]; omega
    have q2 : ((E : Int) != 0) = true := by rw [bne, q1]; rfl
    have q3 : ¬ (E : Int) = 0 := by omega
    clear HG hlen
    show Calls _ _ _ _ fun e w' => e = .returned (.tuple #[.string ⟨#[]⟩, .int .i64 80]) ∧ _
    generalize Vc.bs r = rr at HS
    go_enter Tryz.func14, Tryz.ntmps14
    go_wp2_with (first | (go_at_call 17; refine HP.out.mono ?_; rintro e w1 ⟨rfl, hb1⟩) | (go_at_call 35; refine (HRD.out _ (Kept.of_below hb1)).mono ?_; rintro e w2 ⟨rfl, hk2⟩; have HK2 := hideIt (below_kept hb1 hk2); clear hk2) | (go_at_call 36; refine (HS.out _).mono ?_; rintro e w3 ⟨rfl, hb3⟩; have HK3 := hideIt (kept_below HK2.out hb3); clear hb3))
    go_ret2
    exact ⟨rfl, HK3.out⟩
end
end Go.Proofs.YtbmhhlkjgnijgaaGreatDoor.Lo
namespace Go.Proofs.YtbmhhlkjgnijgaaGreatDoor.Lo
open Vc Go.RowKit Go.Shelf
theorem inc_ne_dir {id : List UInt8} (h : id.length = 32) : dirP id ≠ incP := ne_len (by rw [dir_len h]; decide)
theorem inc_ne_file {id : List UInt8} (h : id.length = 32) : fileP id ≠ incP := ne_len (by rw [file_len h]; decide)
theorem dir_ne_file {id jd : List UInt8} (h : id.length = 32) (hj : jd.length = 32) : dirP id ≠ fileP jd := ne_len (by rw [dir_len h, file_len hj]; decide)
theorem obj_ne_dir {id : List UInt8} (h : id.length = 32) : objP ≠ dirP id := ne_len (by rw [dir_len h]; decide)
theorem obj_ne_file {id : List UInt8} (h : id.length = 32) : objP ≠ fileP id := ne_len (by rw [file_len h]; decide)
/-- A picture that can take an object's file. -/
structure Ready (S : Fs) (id : List UInt8) : Prop where
  obj : S.now objP = some none
  inc : S.now incP = none
  dir : S.now (dirP id) = some none
  file : S.now (fileP id) ≠ some none
/-- Behind Write and Sync of what comes in. -/
noncomputable def inS (S : Fs) (p : ByteArray) : Fs := { S.fresh incP p with files := updF (S.fresh incP p).files S.came ⟨p, p⟩, steps := S.steps + 2 }
def setU (S : Fs) (u : Int) : Fs := { S with used := u }
theorem setU_now (S : Fs) (u : Int) : (setU S u).now = S.now := rfl
theorem enact_now (S : Fs) (a : Pa) : (S.enact a).now = doN S.now a := rfl
/-- Behind its Rename. -/
noncomputable def movS (S : Fs) (id : List UInt8) (p : ByteArray) (u : Int) : Fs := setU ((inS S p).enact ⟨1, incP, fileP id, some S.came⟩) u
theorem movS_now (S : Fs) (id : List UInt8) (p : ByteArray) (u : Int) : (movS S id p u).now = doN (inS S p).now ⟨1, incP, fileP id, some S.came⟩ := by
  unfold movS
  rw [setU_now, enact_now]
/-- Behind all of it. -/
noncomputable def laidS (S : Fs) (id : List UInt8) (p : ByteArray) (u : Int) : Fs := (movS S id p u).syncDir (dirP id)
theorem isDir_of {n : Nm} {q : ByteArray} (h : n q = some none) : isDir n q = true := by unfold isDir; rw [h]; simp
theorem isDir_not {n : Nm} {q : ByteArray} (h0 : q.data.toList ≠ []) (h : n q ≠ some none) : isDir n q = false := by
  unfold isDir
  have : q.data.toList.isEmpty = false := by simpa using h0
  rw [this]
  cases hq : n q with
  | none => rfl
  | some v =>
    cases v with
    | none => exact absurd hq h
    | some x => rfl
theorem ne_nil_of {L : List UInt8} (h : L.length ≠ 0) : (Vc.bs L).data.toList ≠ [] := by
  rw [Vc.bs_list]
  exact fun e => h (by rw [e]; rfl)
theorem inc_now {S : Fs} {id : List UInt8} (h : Ready S id) (p : ByteArray) : (S.fresh incP p).now = fun q => if q = incP then some (some S.came) else S.now q := by
  show doN S.now ⟨0, incP, ⟨#[]⟩, some S.came⟩ = _
  rw [doN_comes h.inc (by rw [dir_inc]; exact isDir_of h.obj)]
theorem moved_now {S : Fs} {id : List UInt8} (hl : id.length = 32) (h : Ready S id) (p : ByteArray) : doN (inS S p).now ⟨1, incP, fileP id, some S.came⟩ = fun q => if q = fileP id then some (some S.came) else S.now q := by
  have hn : (inS S p).now = fun q => if q = incP then some (some S.came) else S.now q := inc_now h p
  rw [hn]
  unfold doN
  have hd : isDir (fun q => if q = incP then some (some S.came) else S.now q) (dirOf (fileP id)) = true := by
    rw [dir_file]
    apply isDir_of
    show (if dirP id = incP then _ else _) = _
    rw [if_neg (inc_ne_dir hl), h.dir]
  have hf : isDir (fun q => if q = incP then some (some S.came) else S.now q) (fileP id) = false := by
    refine isDir_not (ne_nil_of (by rw [file_len hl]; decide)) ?_
    show (if fileP id = incP then _ else _) ≠ _
    rw [if_neg (inc_ne_file hl)]
    exact h.file
  rw [if_neg (show ¬ (1 : Nat) = 0 by decide), if_pos rfl, if_pos ⟨hd, .inl hf⟩]
  funext q
  show (if q = fileP id then some (some S.came) else if q = incP ∧ _ then none else if q = incP then _ else S.now q) = _
  by_cases e : q = fileP id
  · rw [if_pos e, if_pos e]
  · rw [if_neg e, if_neg e]
    by_cases e2 : q = incP
    · rw [if_pos ⟨e2, by simp [pvN]⟩, e2, h.inc]
    · rw [if_neg (fun h' => e2 h'.1), if_neg e2]
section
variable {n0 : Nat} {A : Nat → Prop} {b : Nat} {w w' : World} {fb room : Nat} {S : Fs}
theorem wr_inc {id : List UInt8} (h : Ready S id) : S.wrN incP = 0 := by
  unfold Fs.wrN
  rw [if_pos incP_path, dir_inc, isDir_of h.obj, if_pos rfl, isDir_not (by decide +kernel) (by rw [h.inc]; simp)]
  rfl
/-- The four steps of laying, one by one. -/
theorem lay_write {id : List UInt8} (hr : Ready S id) (h : St P0 n0 A b w fb S) (hb : b < 880) (p : ByteArray) (hp : p.size ≤ 100000000) :
    Calls Tryz.prog 68 #[.pointer (some ⟨fb, 0, none⟩), .string incP, .string p] w fun e w' => (Full S.used S.room (p.size : Int) ∧ e = .returned (.int .i64 33) ∧ Kept [] w w') ∨ (¬ Full S.used S.room (p.size : Int) ∧ e = .returned (.int .i64 0) ∧ StTo P0 n0 A (b + 1) w fb (S.fresh incP p) w') :=
  (write_new_rep h.rep (by omega) (calm_nil _ _) incP p (by rw [incP_size]; decide) hp (wr_inc hr) hr.inc).mono fun e w' hr' => hr'.elim .inl fun ⟨h1, h2, h3⟩ => .inr ⟨h1, h2, h.to h3⟩
theorem lay_sync {id : List UInt8} (hr : Ready S id) (p : ByteArray) {A' : Nat → Prop} {w' : World} (h : St P0 n0 A' b w' fb (S.fresh incP p)) (hb : b < 880) :
    Calls Tryz.prog 69 #[.pointer (some ⟨fb, 0, none⟩), .string incP] w' fun e w2 => e = .returned (.int .i64 0) ∧ StTo P0 n0 A' (b + 1) w' fb (inS S p) w2 := by
  have hn : (S.fresh incP p).now incP = some (some S.came) := by rw [inc_now hr p]; simp
  have e0 : (S.fresh incP p).syE incP = 0 := sy_file incP_path hn
  refine (sync_rep h.rep (by omega) (calm_nil _ _) incP (by rw [incP_size]; decide)).mono fun e w2 ⟨he, hr'⟩ => ?_
  rw [e0] at he
  rcases hr' with ⟨h0, _⟩ | ⟨_, S', ⟨x, hx, _, rfl⟩, hR⟩
  · exact absurd e0 h0
  · rw [hn] at hx
    simp only [Option.some.injEq] at hx
    subst hx
    have hf : ((S.fresh incP p).files S.came).now = p := by
      show (updF S.files S.came ⟨p, ⟨#[]⟩⟩ S.came).now = p
      simp [updF]
    rw [hf] at hR
    exact ⟨he, h.to hR⟩
theorem lay_move {id : List UInt8} (hl : id.length = 32) (hr : Ready S id) (p : ByteArray) {A' : Nat → Prop} {w' : World} (h : St P0 n0 A' b w' fb (inS S p)) (hb : b < 880) :
    Calls Tryz.prog 70 #[.pointer (some ⟨fb, 0, none⟩), .string incP, .string (fileP id)] w' fun e w2 => e = .returned (.int .i64 0) ∧ ∃ u, u ≤ (inS S p).used ∧ StTo P0 n0 A' (b + 1) w' fb (movS S id p u) w2 := by
  have hn : (inS S p).now = fun q => if q = incP then some (some S.came) else S.now q := inc_now hr p
  have h1 : (inS S p).now incP = some (some S.came) := by rw [hn]; simp
  have h2 : pvN (inS S p).now incP = some S.came := by unfold pvN; rw [h1]
  have hd : isDir (inS S p).now (dirOf (fileP id)) = true := by
    rw [dir_file]
    apply isDir_of
    rw [hn]
    show (if dirP id = incP then _ else _) = _
    rw [if_neg (inc_ne_dir hl), hr.dir]
  have hf : isDir (inS S p).now (fileP id) = false := by
    refine isDir_not (ne_nil_of (by rw [file_len hl]; decide)) ?_
    rw [hn]
    show (if fileP id = incP then _ else _) ≠ _
    rw [if_neg (inc_ne_file hl)]
    exact hr.file
  have e0 : (inS S p).rnE incP (fileP id) = 0 := by
    unfold Fs.rnE
    rw [if_pos ⟨incP_path, fileP_path hl⟩, h1, h2, toL_eq, hd, hf]
    simp [Ne.symm (inc_ne_file hl)]
  refine (rename_rep h.rep (by omega) (calm_nil _ _) incP (fileP id) (by rw [incP_size]; decide) (by rw [fileP_size hl]; decide)).mono fun e w2 ⟨he, hr'⟩ => ?_
  rw [e0] at he
  rcases hr' with ⟨h0, _⟩ | ⟨_, S', ⟨u, hu, rfl⟩, hR⟩
  · exact absurd e0 h0
  · rw [h2] at hR
    exact ⟨he, u, hu, h.to hR⟩
theorem lay_sure {id : List UInt8} (hl : id.length = 32) (hr : Ready S id) (p : ByteArray) (u : Int) {A' : Nat → Prop} {w' : World} (h : St P0 n0 A' b w' fb (movS S id p u)) (hb : b < 880) :
    Calls Tryz.prog 41 #[.pointer (some ⟨fb, 0, none⟩), .string (dirP id)] w' fun e w2 => e = .returned (.int .i64 0) ∧ StTo P0 n0 A' (b + 1) w' fb (laidS S id p u) w2 := by
  have hn : (movS S id p u).now (dirP id) = some none := by
    rw [movS_now, moved_now hl hr p]
    show (if dirP id = fileP id then _ else _) = _
    rw [if_neg (dir_ne_file hl hl), hr.dir]
  have e0 : (movS S id p u).nfE (dirP id) = 0 := nf_of (dirP_path hl) hn
  refine (syncDir_rep h.rep (by omega) (calm_nil _ _) (dirP id) (by rw [dirP_size hl]; decide)).mono fun e w2 ⟨he, hr'⟩ => ?_
  rw [e0] at he
  rcases hr' with ⟨h0, _⟩ | ⟨_, S', rfl, hR⟩
  · exact absurd e0 h0
  · exact ⟨he, h.to hR⟩
set_option maxHeartbeats 1600000 in
set_option maxRecDepth 100000 in
/-- An object's file is laid, when its folder stands there; or there is no room. -/
theorem lay_any (id : List UInt8) (hl : id.length = 32) (p : ByteArray) (hp : p.size ≤ 100000000) {S1 : Fs} (hr : Ready S1 id) (hb : b < 870) (HM : ∀ X, Kept [] w X → Calls Tryz.prog 50 #[.pointer (some ⟨fb, 0, none⟩), .string objP, .string (dirP id)] X fun e w' => e = .returned (.int .i64 0) ∧ StTo P0 n0 A b w fb S1 w') :
    Calls Tryz.prog 31 #[.pointer (some ⟨fb, 0, none⟩), .string (Vc.bs id), .string p] w fun e w' => (Full S1.used S1.room (p.size : Int) ∧ e = .returned (.int .i64 33) ∧ StTo P0 n0 A b w fb S1 w') ∨ (¬ Full S1.used S1.room (p.size : Int) ∧ e = .returned (.int .i64 0) ∧ ∃ u, u ≤ S1.used + (p.size : Int) ∧ StTo P0 n0 A (b + 4) w fb (laidS S1 id p u) w') := by
  have HFO := hideIt (fun w => folder_any id hl w)
  have HPA := hideIt (fun w => path_any id hl w)
  have HMF := hideIt HM
  have HW : Hid (∀ X, StTo P0 n0 A b w fb S1 X → Calls Tryz.prog 68 #[.pointer (some ⟨fb, 0, none⟩), .string incP, .string p] X fun e w' => (Full S1.used S1.room (p.size : Int) ∧ e = .returned (.int .i64 33) ∧ StTo P0 n0 A b w fb S1 w') ∨ (¬ Full S1.used S1.room (p.size : Int) ∧ e = .returned (.int .i64 0) ∧ StTo P0 n0 A (b + 1) w fb (S1.fresh incP p) w')) := hideIt (fun X ⟨A2, k1, k2, k3⟩ => (lay_write hr k2 (by omega) p hp).mono fun e w' hr' => by
    rcases hr' with ⟨h1, h2, h3⟩ | ⟨h1, h2, h3⟩
    · exact .inl ⟨h1, h2, StTo.step k1 k3 (StTo.kept k2 h3)⟩
    · exact .inr ⟨h1, h2, StTo.step k1 k3 h3⟩)
  have HS : Hid (∀ X, StTo P0 n0 A (b + 1) w fb (S1.fresh incP p) X → Calls Tryz.prog 69 #[.pointer (some ⟨fb, 0, none⟩), .string incP] X fun e w' => e = .returned (.int .i64 0) ∧ StTo P0 n0 A (b + 2) w fb (inS S1 p) w') := hideIt (fun X ⟨A2, k1, k2, k3⟩ => (lay_sync hr p k2 (by omega)).mono fun e w' ⟨h1, h2⟩ => ⟨h1, StTo.step k1 k3 h2⟩)
  have HR : Hid (∀ X Y, StTo P0 n0 A (b + 2) w fb (inS S1 p) X → Kept [] X Y → Calls Tryz.prog 70 #[.pointer (some ⟨fb, 0, none⟩), .string incP, .string (fileP id)] Y fun e w' => e = .returned (.int .i64 0) ∧ ∃ u, u ≤ (inS S1 p).used ∧ StTo P0 n0 A (b + 3) w fb (movS S1 id p u) w') := hideIt (fun X Y ⟨A2, k1, k2, k3⟩ hY => (lay_move hl hr p (k2.kept hY) (by omega)).mono fun e w' ⟨h1, u, hu, h2⟩ => ⟨h1, u, hu, StTo.step k1 k3 (StTo.step (fun _ hg => .inl hg) (Out.kept hY) h2)⟩)
  have HD : Hid (∀ X u, StTo P0 n0 A (b + 3) w fb (movS S1 id p u) X → Calls Tryz.prog 41 #[.pointer (some ⟨fb, 0, none⟩), .string (dirP id)] X fun e w' => e = .returned (.int .i64 0) ∧ StTo P0 n0 A (b + 4) w fb (laidS S1 id p u) w') := hideIt (fun X u ⟨A2, k1, k2, k3⟩ => (lay_sure hl hr p u k2 (by omega)).mono fun e w' ⟨h1, h2⟩ => ⟨h1, StTo.step k1 k3 h2⟩)
  have hu : (inS S1 p).used = S1.used + (p.size : Int) := rfl
  have HU := hideIt hu
  have ei : (⟨#[111, 98, 106, 101, 99, 116, 115, 47, 105, 110, 99, 111, 109, 105, 110, 103]⟩ : ByteArray) = incP := by decide +kernel
  have eo : (⟨#[111, 98, 106, 101, 99, 116, 115]⟩ : ByteArray) = objP := by decide +kernel
  clear hr HM hl hu
  obtain ⟨T1, hT1⟩ : ∃ T1 : World → Prop, T1 = StTo P0 n0 A b w fb S1 := ⟨_, rfl⟩
  obtain ⟨T2, hT2⟩ : ∃ T2 : World → Prop, T2 = StTo P0 n0 A (b + 1) w fb (S1.fresh incP p) := ⟨_, rfl⟩
  obtain ⟨T3, hT3⟩ : ∃ T3 : World → Prop, T3 = StTo P0 n0 A (b + 2) w fb (inS S1 p) := ⟨_, rfl⟩
  obtain ⟨T4, hT4⟩ : ∃ T4 : Int → World → Prop, T4 = fun u => StTo P0 n0 A (b + 3) w fb (movS S1 id p u) := ⟨_, rfl⟩
  obtain ⟨T5, hT5⟩ : ∃ T5 : Int → World → Prop, T5 = fun u => StTo P0 n0 A (b + 4) w fb (laidS S1 id p u) := ⟨_, rfl⟩
  replace HMF : Hid (∀ X, Kept [] w X → Calls Tryz.prog 50 #[.pointer (some ⟨fb, 0, none⟩), .string objP, .string (dirP id)] X fun e w' => e = .returned (.int .i64 0) ∧ T1 w') := by rw [hT1]; exact HMF
  replace HW : Hid (∀ X, T1 X → Calls Tryz.prog 68 #[.pointer (some ⟨fb, 0, none⟩), .string incP, .string p] X fun e w' => (Full S1.used S1.room (p.size : Int) ∧ e = .returned (.int .i64 33) ∧ T1 w') ∨ (¬ Full S1.used S1.room (p.size : Int) ∧ e = .returned (.int .i64 0) ∧ T2 w')) := by rw [hT1, hT2]; exact HW
  replace HS : Hid (∀ X, T2 X → Calls Tryz.prog 69 #[.pointer (some ⟨fb, 0, none⟩), .string incP] X fun e w' => e = .returned (.int .i64 0) ∧ T3 w') := by rw [hT2, hT3]; exact HS
  replace HR : Hid (∀ X Y, T3 X → Kept [] X Y → Calls Tryz.prog 70 #[.pointer (some ⟨fb, 0, none⟩), .string incP, .string (fileP id)] Y fun e w' => e = .returned (.int .i64 0) ∧ ∃ u, u ≤ S1.used + (p.size : Int) ∧ T4 u w') := by rw [hT3, hT4, ← HU.out]; exact HR
  replace HD : Hid (∀ X u, T4 u X → Calls Tryz.prog 41 #[.pointer (some ⟨fb, 0, none⟩), .string (dirP id)] X fun e w' => e = .returned (.int .i64 0) ∧ T5 u w') := by rw [hT4, hT5]; exact HD
  show Calls _ _ _ _ fun e w' => (Full S1.used S1.room (p.size : Int) ∧ e = .returned (.int .i64 33) ∧ StTo P0 n0 A b w fb S1 w') ∨ (¬ Full S1.used S1.room (p.size : Int) ∧ e = .returned (.int .i64 0) ∧ ∃ u, u ≤ S1.used + (p.size : Int) ∧ (fun u => StTo P0 n0 A (b + 4) w fb (laidS S1 id p u)) u w')
  rw [← hT1, ← hT5]
  clear hT1 hT2 hT3 hT4 hT5 HU hp
  generalize Full S1.used S1.room (p.size : Int) = FU at HW ⊢
  generalize S1.used + (p.size : Int) = UU at HR ⊢
  generalize dirP id = d at HFO HMF HD
  generalize fileP id = q at HPA HR
  generalize Vc.bs id = i at HFO HPA ⊢
  generalize incP = ip at HW HS HR ei
  generalize objP = op at HMF eo
  subst ei eo
  by_cases hfu : FU
  · have HFU := hideIt hfu
    clear hfu
    go_enter Tryz.func31, Tryz.ntmps31
    go_wp2_with (first | (go_at_call 39; refine (HFO.out _).mono ?_; rintro e w1 ⟨rfl, hb1⟩) | (go_at_call 50; refine (HMF.out _ (Kept.of_below hb1)).mono ?_; rintro e w2 ⟨rfl, ht2⟩) | (go_at_call 68; refine (HW.out _ ht2).mono ?_; rintro e w3 hw3; obtain ⟨rfl, ht3⟩ : e = .returned (.int .i64 33) ∧ T1 w3 := hw3.elim (fun h => h.2) (fun h => absurd HFU.out h.1); clear hw3))
    go_ret
    exact .inl ⟨HFU.out, rfl, ht3⟩
  · have HFU := hideIt hfu
    clear hfu
    go_enter Tryz.func31, Tryz.ntmps31
    go_wp2_with (first | (go_at_call 39; refine (HFO.out _).mono ?_; rintro e w1 ⟨rfl, hb1⟩) | (go_at_call 50; refine (HMF.out _ (Kept.of_below hb1)).mono ?_; rintro e w2 ⟨rfl, ht2⟩) | (go_at_call 68; refine (HW.out _ ht2).mono ?_; rintro e w3 hw3; obtain ⟨rfl, ht3⟩ : e = .returned (.int .i64 0) ∧ T2 w3 := hw3.elim (fun h => absurd h.1 HFU.out) (fun h => h.2); clear hw3) | (go_at_call 69; refine (HS.out _ ht3).mono ?_; rintro e w4 ⟨rfl, ht4⟩) | (go_at_call 17; refine (HPA.out _).mono ?_; rintro e w5 ⟨rfl, hb5⟩) | (go_at_call 70; refine (HR.out _ _ ht4 (Kept.of_below hb5)).mono ?_; rintro e w6 ⟨rfl, u, hu, ht6⟩) | (go_at_call 41; refine (HD.out _ _ ht6).mono ?_; rintro e w7 ⟨rfl, ht7⟩))
    go_ret
    exact .inr ⟨HFU.out, rfl, u, hu, ht7⟩
end
end Go.Proofs.YtbmhhlkjgnijgaaGreatDoor.Lo
namespace Go.Proofs.YtbmhhlkjgnijgaaGreatDoor.Lo
open Vc Go.RowKit Go.Shelf
def idL (raw : List UInt8) : List UInt8 := (Sa.Sha.sha raw).data.toList
theorem id_bs (raw : List UInt8) : Vc.bs (idL raw) = Sa.Sha.sha raw := Vc.bs_data _
theorem id_len (raw : List UInt8) : (idL raw).length = 32 := by rw [idL, Vc.str_len]; exact Ob.sha_size raw
def prP (raw : List UInt8) : ByteArray := Vc.bs (Ld.Lz.press raw)
theorem press_c (raw : List UInt8) (w : World) (h : raw.length ≤ 1048576) : Calls Tryz.prog 30 #[.string (Vc.bs raw)] w fun e w' => e = .returned (.tuple #[.string (prP raw), .int .i64 0]) ∧ Below w.heap.size w w' := by
  have := Ld.press_any (Vc.bs raw) w (by rw [Vc.bs_size]; exact h)
  rw [Vc.bs_list] at this
  exact this
theorem id_c (raw : List UInt8) (w : World) (h : raw.length ≤ 1048576) (hk : Ob.Ok w) : Calls Tryz.prog 29 #[.string (Vc.bs raw)] w fun e w' => e = .returned (.string (Vc.bs (idL raw))) ∧ Below w.heap.size w w' := by
  have := Ob.id_any (Vc.bs raw) w (by rw [Vc.bs_size]; omega) hk
  rw [Vc.bs_list, ← id_bs] at this
  exact this
set_option maxHeartbeats 800000 in
set_option maxRecDepth 100000 in
theorem links_blob (body : List UInt8) (hb : body.length ≤ 262144) (w : World) (hk : Ob.Ok w) : Calls Tryz.prog 28 #[.string (Vc.bs (Ob.rawL 1 body))] w fun e w' => e = .returned (.tuple #[.slice none 0 0, .int .i64 0]) ∧ Below w.heap.size w w' := by
  have hlen := Ob.raw_len 1 body (by omega)
  have HS := hideIt (Ob.split_any (Ob.rawL 1 body) (by omega) w hk)
  rw [Ob.opn_raw 1 (by decide) body (by omega), if_neg (by omega)] at HS
  unfold Ob.opV at HS
  simp only at HS
  clear hk hlen hb
  have HS2 : Hid (∃ x y : ByteArray, Vc.bs (Ob.rawL 1 body) = x ∧ Calls Tryz.prog 59 #[.string x] w fun e w' => e = .returned (.tuple #[.int .i64 1, .string y, .int .i64 0]) ∧ Below w.heap.size w w') := hideIt ⟨_, _, rfl, HS.out⟩
  obtain ⟨x, y, hx, H⟩ := HS2.out
  rw [hx]
  have HH := hideIt H
  clear HS HS2 H hx
  go_enter Tryz.func28, Tryz.ntmps28
  go_wp2_with (first | (go_at_call 59; refine HH.out.mono ?_; rintro e w1 ⟨rfl, hb1⟩))
  go_ret2
  exact ⟨rfl, hb1⟩
section
variable {pl : Value} {n0 : Nat} {A : Nat → Prop} {b : Nat} {w w' : World} {fb room : Nat} {S : Fs}
set_option maxHeartbeats 800000 in
set_option maxRecDepth 100000 in
/-- It is there already. -/
theorem put_same (raw : List UInt8) (hr : raw.length ≤ 1048576) (hk : ∀ X, Kept [] w X → Ob.Ok X) {v : Value} (HL : Calls Tryz.prog 28 #[.string (Vc.bs raw)] w fun e w' => (∃ v, e = .returned (.tuple #[v, .int .i64 0])) ∧ Below w.heap.size w w')
    (HG : ∀ X, Kept [] w X → Calls Tryz.prog 14 #[.pointer (some ⟨fb, 0, none⟩), .string (Vc.bs (idL raw))] X fun e w' => e = .returned (.tuple #[v, .int .i64 0]) ∧ Kept [] X w') :
    Calls Tryz.prog 12 #[.pointer (some ⟨fb, 0, none⟩), .string (Vc.bs raw)] w fun e w' => e = .returned (.tuple #[.string (Vc.bs (idL raw)), .int .i64 0]) ∧ Kept [] w w' := by
  have HLK := hideIt HL
  have HGT := hideIt HG
  have HID := hideIt (fun X hX => id_c raw X hr (hk X hX))
  clear HL HG hk hr
  generalize Vc.bs (idL raw) = i at HGT HID ⊢
  generalize Vc.bs raw = r at HLK HID ⊢
  go_enter Tryz.func12, Tryz.ntmps12
  go_wp2_with (first | (go_at_call 28; refine HLK.out.mono ?_; rintro e w1 ⟨⟨v1, rfl⟩, hb1⟩) | (go_at_call 29; refine (HID.out _ (Kept.of_below hb1)).mono ?_; rintro e w2 ⟨rfl, hb2⟩; have HK2 := hideIt (kept_below (Kept.of_below hb1) hb2); clear hb2) | (go_at_call 14; refine (HGT.out _ HK2.out).mono ?_; rintro e w3 ⟨rfl, hk3⟩))
  go_ret2
  exact ⟨rfl, (HK2.out.trans hk3).sub (by simp)⟩
set_option maxHeartbeats 800000 in
set_option maxRecDepth 100000 in
/-- It is laid, or not. -/
theorem put_lay (raw : List UInt8) (hr : raw.length ≤ 1048576) (hk : ∀ X, Kept [] w X → Ob.Ok X) (HL : Calls Tryz.prog 28 #[.string (Vc.bs raw)] w fun e w' => (∃ v, e = .returned (.tuple #[v, .int .i64 0])) ∧ Below w.heap.size w w')
    (E : Int) (hE : E ≠ 0) (HG : ∀ X, Kept [] w X → Calls Tryz.prog 14 #[.pointer (some ⟨fb, 0, none⟩), .string (Vc.bs (idL raw))] X fun e w' => e = .returned (.tuple #[.string ⟨#[]⟩, .int .i64 E]) ∧ Kept [] X w')
    (R : Int) (T : World → Prop) (HY : ∀ X, Kept [] w X → Calls Tryz.prog 31 #[.pointer (some ⟨fb, 0, none⟩), .string (Vc.bs (idL raw)), .string (prP raw)] X fun e w' => e = .returned (.int .i64 R) ∧ T w') :
    Calls Tryz.prog 12 #[.pointer (some ⟨fb, 0, none⟩), .string (Vc.bs raw)] w fun e w' => e = .returned (if R = 0 then .tuple #[.string (Vc.bs (idL raw)), .int .i64 0] else .tuple #[.string ⟨#[]⟩, .int .i64 R]) ∧ T w' := by
  have HLK := hideIt HL
  have HGT := hideIt HG
  have HLY := hideIt HY
  have HPR := hideIt (fun X => press_c raw X hr)
  have HID := hideIt (fun X hX => id_c raw X hr (hk X hX))
  have q1 : (E == 0) = false := by rw [beq_eq_false_iff_ne]; exact hE
  have q2 : (E != 0) = true := by rw [bne, q1]; rfl
  clear HL HG HY hk hr
  generalize Vc.bs (idL raw) = i at HGT HID HLY ⊢
  generalize prP raw = p at HPR HLY
  generalize Vc.bs raw = r at HLK HID HPR ⊢
  by_cases hR : R = 0
  · subst hR
    rw [if_pos rfl]
    go_enter Tryz.func12, Tryz.ntmps12
    go_wp2_with (first | (go_at_call 28; refine HLK.out.mono ?_; rintro e w1 ⟨⟨v1, rfl⟩, hb1⟩) | (go_at_call 29; refine (HID.out _ (Kept.of_below hb1)).mono ?_; rintro e w2 ⟨rfl, hb2⟩; have HK2 := hideIt (kept_below (Kept.of_below hb1) hb2); clear hb2) | (go_at_call 14; refine (HGT.out _ HK2.out).mono ?_; rintro e w3 ⟨rfl, hk3⟩; have HK3 : Hid (Kept [] w w3) := hideIt ((HK2.out.trans hk3).sub (by simp)); clear hk3) | (go_at_call 30; refine (HPR.out _).mono ?_; rintro e w4 ⟨rfl, hb4⟩; have HK4 := hideIt (kept_below HK3.out hb4); clear hb4) | (go_at_call 31; refine (HLY.out _ HK4.out).mono ?_; rintro e w5 ⟨rfl, ht5⟩))
    go_ret2
    exact ⟨rfl, ht5⟩
  · rw [if_neg hR]
    have r1 : (R == 0) = false := by rw [beq_eq_false_iff_ne]; exact hR
    have r2 : (R != 0) = true := by rw [bne, r1]; rfl
    go_enter Tryz.func12, Tryz.ntmps12
    go_wp2_with (first | (go_at_call 28; refine HLK.out.mono ?_; rintro e w1 ⟨⟨v1, rfl⟩, hb1⟩) | (go_at_call 29; refine (HID.out _ (Kept.of_below hb1)).mono ?_; rintro e w2 ⟨rfl, hb2⟩; have HK2 := hideIt (kept_below (Kept.of_below hb1) hb2); clear hb2) | (go_at_call 14; refine (HGT.out _ HK2.out).mono ?_; rintro e w3 ⟨rfl, hk3⟩; have HK3 : Hid (Kept [] w w3) := hideIt ((HK2.out.trans hk3).sub (by simp)); clear hk3) | (go_at_call 30; refine (HPR.out _).mono ?_; rintro e w4 ⟨rfl, hb4⟩; have HK4 := hideIt (kept_below HK3.out hb4); clear hb4) | (go_at_call 31; refine (HLY.out _ HK4.out).mono ?_; rintro e w5 ⟨rfl, ht5⟩))
    go_ret2
    exact ⟨rfl, ht5⟩
/-! ### Without power -/
section
variable {nb : Nat} {sv dv uv : Value} {came used room steps : Int}
set_option maxHeartbeats 800000 in
set_option maxRecDepth 100000 in
theorem mf_off (h : FsAt w fb (.map (some nb)) sv dv uv came used room steps true pl) (q p : ByteArray) :
    Calls Tryz.prog 50 #[.pointer (some ⟨fb, 0, none⟩), .string q, .string p] w fun e w' => e = .returned (.int .i64 7) ∧ Kept [] w w' := by
  have HR := hideIt (read_off h p)
  have HM := hideIt (fun X (hX : Kept [] w X) => mkdir_off (hX.fs h (by simp)) p)
  clear h
  go_enter Tryz.func50, Tryz.ntmps50
  go_wp2_with (first | (go_at_call 35; refine HR.out.mono ?_; rintro e w1 ⟨rfl, hk1⟩) | (go_at_call 99; refine (HM.out _ hk1).mono ?_; rintro e w2 ⟨rfl, hk2⟩))
  go_ret
  exact ⟨rfl, (hk1.trans hk2).sub (by simp)⟩
set_option maxHeartbeats 800000 in
set_option maxRecDepth 100000 in
theorem lay_off (h : FsAt w fb (.map (some nb)) sv dv uv came used room steps true pl) (id : List UInt8) (hl : id.length = 32) (p : ByteArray) :
    Calls Tryz.prog 31 #[.pointer (some ⟨fb, 0, none⟩), .string (Vc.bs id), .string p] w fun e w' => e = .returned (.int .i64 7) ∧ Kept [] w w' := by
  have HFO := hideIt (fun w => folder_any id hl w)
  have HM := hideIt (fun X (hX : Kept [] w X) (q : ByteArray) => mf_off (hX.fs h (by simp)) q (dirP id))
  clear h hl
  generalize dirP id = d at HFO HM
  generalize Vc.bs id = i at HFO ⊢
  go_enter Tryz.func31, Tryz.ntmps31
  go_wp2_with (first | (go_at_call 39; refine (HFO.out _).mono ?_; rintro e w1 ⟨rfl, hb1⟩) | (go_at_call 50; refine (HM.out _ (Kept.of_below hb1) _).mono ?_; rintro e w2 ⟨rfl, hk2⟩))
  go_ret
  exact ⟨rfl, below_kept hb1 hk2⟩
set_option maxHeartbeats 800000 in
set_option maxRecDepth 100000 in
theorem open_off (h : FsAt w fb (.map (some nb)) sv dv uv came used room steps true pl) :
    Calls Tryz.prog 23 #[.pointer (some ⟨fb, 0, none⟩)] w fun e w' => e = .returned (.int .i64 7) ∧ Kept [] w w' := by
  have HM := hideIt (fun (q p : ByteArray) => mf_off h q p)
  clear h
  go_enter Tryz.func23, Tryz.ntmps23
  go_wp2_with (first | (go_at_call 50; refine (HM.out _ _).mono ?_; rintro e w2 ⟨rfl, hk2⟩))
  go_ret
  exact ⟨rfl, hk2⟩
end
set_option maxHeartbeats 800000 in
set_option maxRecDepth 100000 in
theorem open_nil (w : World) : Calls Tryz.prog 23 #[.pointer none] w fun e w' => e = .returned (.int .i64 7) ∧ Kept [] w w' := by
  have HM : Hid (∀ (q p : ByteArray), Calls Tryz.prog 50 #[.pointer none, .string q, .string p] w fun e w' => e = .returned (.int .i64 7) ∧ Kept [] w w') := hideIt (fun q p => by
    have HR := hideIt (read_nil p w)
    have HM := hideIt (fun X => mkdir_nil p X)
    go_enter Tryz.func50, Tryz.ntmps50
    go_wp2_with (first | (go_at_call 35; refine HR.out.mono ?_; rintro e w1 ⟨rfl, hk1⟩) | (go_at_call 99; refine (HM.out _).mono ?_; rintro e w2 ⟨rfl, hk2⟩))
    go_ret
    exact ⟨rfl, (hk1.trans hk2).sub (by simp)⟩)
  go_enter Tryz.func23, Tryz.ntmps23
  go_wp2_with (first | (go_at_call 50; refine (HM.out _ _).mono ?_; rintro e w2 ⟨rfl, hk2⟩))
  go_ret
  exact ⟨rfl, hk2⟩
end
end Go.Proofs.YtbmhhlkjgnijgaaGreatDoor.Lo
namespace Go.Proofs.YtbmhhlkjgnijgaaGreatDoor.Lo
open Vc Go.RowKit Go.Shelf
/-- A blob's bytes. -/
def blobL (s : List UInt8) : List UInt8 := Ob.rawL 1 (s.take 200)
theorem blob_len (s : List UInt8) : (blobL s).length ≤ 228 := by
  have := Ob.raw_len 1 (s.take 200) (by simp; omega)
  unfold blobL
  simp at this
  omega
set_option maxHeartbeats 800000 in
set_option maxRecDepth 100000 in
theorem blob_any (s : List UInt8) (w : World) : Calls Tryz.prog 9 #[.string (Vc.bs s)] w fun e w' => e = .returned (.string (Vc.bs (blobL s))) ∧ Below w.heap.size w w' := by
  have hsz : (Vc.bs s).size = s.length := Vc.bs_size s
  have HR : Hid (∀ w, Calls Tryz.prog 27 #[.int .i64 1, .string (Vc.bs (s.take 200))] w fun e w' => e = .returned (.string (Vc.bs (blobL s))) ∧ Below w.heap.size w w') := hideIt (fun w => by
    have := Ob.refraw_any 1 (by decide) (Vc.bs (s.take 200)) w (by rw [Vc.bs_size]; simp; omega)
    rw [Vc.bs_list] at this
    exact this)
  by_cases h : 200 < s.length
  · have c1 : decide ((200 : Int) < ((Vc.bs s).size : Int)) = true := decide_eq_true (by omega)
    have c2 : (200 : Int) < ((Vc.bs s).size : Int) := by omega
    have c3 : (200 : Int) ≤ ((Vc.bs s).size : Int) := by omega
    have e1 : (Vc.bs s).extract 0 200 = Vc.bs (s.take 200) := by rw [ext_bs]; simp [List.extract]
    generalize Vc.bs (s.take 200) = t at HR e1
    generalize Vc.bs (blobL s) = r at HR ⊢
    generalize Vc.bs s = x at c1 c2 c3 e1 hsz ⊢
    clear hsz h
    go_enter Tryz.func9, Tryz.ntmps9
    go_wp2_with (first | (go_at_call 27; refine (HR.out _).mono ?_; rintro e w1 ⟨rfl, hb1⟩))
    go_ret
    exact ⟨rfl, hb1⟩
  · have c1 : decide ((200 : Int) < ((Vc.bs s).size : Int)) = false := decide_eq_false (by omega)
    have c2 : ¬ (200 : Int) < ((Vc.bs s).size : Int) := by omega
    rw [List.take_of_length_le (by omega)] at HR
    generalize Vc.bs (blobL s) = r at HR ⊢
    generalize Vc.bs s = x at HR c1 c2 hsz ⊢
    clear hsz h
    go_enter Tryz.func9, Tryz.ntmps9
    go_wp2_with (first | (go_at_call 27; refine (HR.out _).mono ?_; rintro e w1 ⟨rfl, hb1⟩))
    go_ret
    exact ⟨rfl, hb1⟩
/-- A place that was made: its blocks are new. -/
def Made (n0 b : Nat) (w : World) (fb : Nat) (S : Fs) (w' : World) : Prop := ∃ A : Nat → Prop, (∀ g, A g → w.heap.size ≤ g) ∧ St P0 n0 A b w' fb S ∧ Below w.heap.size w w'
section
variable {n0 : Nat} {A : Nat → Prop} {b b' : Nat} {w w' w1 : World} {fb room : Nat} {S S' : Fs}
theorem Out.toBelow {n : Nat} (h : Out A w w') (hn : n ≤ w.heap.size) (hA : ∀ g, A g → n ≤ g) : Below n w w' := h.below hn hA
theorem Made.step (h : Made n0 b w fb S w1) (k : ∀ A, St P0 n0 A b w1 fb S → StTo P0 n0 A b' w1 fb S' w') : Made n0 b' w fb S' w' := by
  obtain ⟨A, h1, h2, h3⟩ := h
  obtain ⟨A2, k1, k2, k3⟩ := k A h2
  refine ⟨A2, fun g hg => ?_, k2, h3.trans (k3.below h3.size h1)⟩
  rcases k1 g hg with e | e
  · exact h1 g e
  · exact Nat.le_trans h3.size e
theorem Made.of (h : StTo P0 n0 (fun g => g = fb) b w1 fb S w') (h1 : w.heap.size ≤ fb) (hb : Below w.heap.size w w1) : Made n0 b w fb S w' := by
  obtain ⟨A2, k1, k2, k3⟩ := h
  refine ⟨A2, fun g hg => ?_, k2, hb.trans (k3.below hb.size (fun g hg => by omega))⟩
  rcases k1 g hg with e | e
  · omega
  · exact Nat.le_trans hb.size e
set_option maxHeartbeats 800000 in
set_option maxRecDepth 100000 in
theorem place_any (ho : Okn n0 w) (hn : 0 < n0) (hw : n0 ≤ w.heap.size) :
    Calls Tryz.prog 10 #[] w fun e w' => e = .returned (.tuple #[.pointer (some ⟨w.heap.size, 0, none⟩), .bool true]) ∧ Made n0 3 w w.heap.size (baseS 1048576) w' := by
  have HN := hideIt (new_at 1048576 w)
  have HO : Hid (∀ X, NewAt X w.heap.size 1048576 → Kept [] w X → Calls Tryz.prog 23 #[.pointer (some ⟨w.heap.size, 0, none⟩)] X fun e w' => e = .returned (.int .i64 0) ∧ Made n0 3 w w.heap.size (baseS 1048576) w') := hideIt (fun X hX hk => by
    have hb : Below w.heap.size w X := (Out.kept (A := fun _ => False) hk).below (Nat.le_refl _) (fun g hg => hg.elim)
    exact (open_fresh hX (ho.step (hb.mono hw)) (by decide) hn hw).mono fun e w' ⟨he, hs⟩ => ⟨he, Made.of hs (Nat.le_refl _) hb⟩)
  clear ho hn hw
  go_enter Tryz.func10, Tryz.ntmps10
  go_wp2_with (first | (go_at_call 22; refine HN.out.mono ?_; rintro e w1 ⟨rfl, h1, hk1, hs1⟩; have HN1 : Hid (NewAt w1 w.heap.size 1048576) := hideIt h1; have HK1 := hideIt hk1; clear h1 hk1 hs1) | (go_at_call 23; refine (HO.out _ HN1.out HK1.out).mono ?_; rintro e w2 ⟨rfl, hm2⟩))
  go_ret2
  exact ⟨rfl, hm2⟩
end
end Go.Proofs.YtbmhhlkjgnijgaaGreatDoor.Lo
namespace Go.Proofs.YtbmhhlkjgnijgaaGreatDoor.Lo
open Vc Go.RowKit Go.Shelf
theorem tell_len (s : List UInt8) (told i : Nat) (hn : s.length ≤ 1048576) (h1 : told ≤ i) (h2 : i ≤ s.length) : (Ld.Lz.tell s told i).length ≤ 4 * (s.length - told) + 4 := by
  by_cases h : i < s.length
  · by_cases hb : Ld.Lz.back s i = 0
    · rw [Ld.Lz.tell_next h hb]
      exact tell_len s told (i + 1) hn (by omega) (by omega)
    · have hk := Ld.Lz.back_some hb
      have hr := Ld.Lz.run_le hb
      have h4 : 4 ≤ Ld.Lz.run s i := by unfold Ld.Lz.run; omega
      have ih := tell_len s (i + Ld.Lz.run s i) (i + Ld.Lz.run s i) hn (Nat.le_refl _) hr
      have a1 := Ld.numL_small (i - told) (by omega)
      have a2 := Ld.numL_small (Ld.Lz.back s i) (by omega)
      have a3 := Ld.numL_small (Ld.Lz.run s i - 4) (by omega)
      rw [Ld.Lz.tell_rep h hb]
      simp only [List.length_append, List.length_take, List.length_drop]
      omega
  · rw [Ld.Lz.tell_end h]
    split
    · have a1 := Ld.numL_small (s.length - told) (by omega)
      simp only [List.length_append, List.length_drop]
      omega
    · simp
  termination_by s.length - i
  decreasing_by all_goals omega
theorem press_le (s : List UInt8) (hn : s.length ≤ 1048576) : (prP s).size ≤ 4 * s.length + 8 := by
  have a1 := Ld.numL_small s.length (by omega)
  have a2 := tell_len s 0 0 hn (Nat.le_refl _) (by omega)
  rw [prP, Vc.bs_size, Ld.Lz.press, List.length_append]
  omega
/-- What is pressed is the object's again. -/
theorem get_press (raw : List UInt8) (h : raw.length ≤ 1048576) : getR (prP raw) (idL raw) = some raw := by
  have e : (prP raw).data.toList = Ld.Lz.press raw := Vc.bs_list _
  unfold getR
  rw [e, Ld.Lz.sp_press raw 1048576 h (by omega)]
  exact if_pos ⟨rfl, (id_bs raw).symm⟩
/-- Names: the folder of all, and one more. -/
def oneN (id : List UInt8) : Nm := fun q => if q = dirP id then some none else baseN q
def oneS (room : Nat) (id : List UInt8) : Fs := ⟨oneN id, oneN id, [], fun _ => ⟨⟨#[]⟩, ⟨#[]⟩⟩, 0, 0, room, 5⟩
theorem base_dir {id : List UInt8} (h : id.length = 32) : baseN (dirP id) = none := by unfold baseN; rw [if_neg (Ne.symm (obj_ne_dir h))]
theorem base_obj : baseN objP = some none := by unfold baseN; rw [if_pos rfl]
theorem do_dir {id : List UInt8} (h : id.length = 32) : doN baseN ⟨0, dirP id, ⟨#[]⟩, none⟩ = oneN id := by
  rw [doN_comes (base_dir h) (by rw [dir_dir]; exact isDir_of base_obj)]
  rfl
theorem in_dir_obj (id : List UInt8) : inP objP ⟨0, dirP id, ⟨#[]⟩, none⟩ = true := by
  unfold inP inB
  rw [show dirOf (⟨0, dirP id, ⟨#[]⟩, none⟩ : Pa).p = objP from dir_dir id]
  simp
theorem one_eq (room : Nat) {id : List UInt8} (h : id.length = 32) : ((baseS room).enact ⟨0, dirP id, ⟨#[]⟩, none⟩).syncDir objP = oneS room id := by
  unfold Fs.syncDir Fs.enact
  simp only [baseS, List.nil_append, do_dir h]
  simp only [List.filter_cons, in_dir_obj, List.filter_nil, if_true, List.foldl_cons, List.foldl_nil, do_dir h]
  rfl
theorem one_ready {room : Nat} {id : List UInt8} (h : id.length = 32) : Ready (oneS room id) id := by
  refine ⟨?_, ?_, ?_, ?_⟩
  · show (if objP = dirP id then some none else baseN objP) = _
    rw [if_neg (obj_ne_dir h), base_obj]
  · show (if incP = dirP id then some none else baseN incP) = _
    rw [if_neg (Ne.symm (inc_ne_dir h)), baseN, if_neg (Ne.symm obj_ne_inc)]
  · show (if dirP id = dirP id then some none else baseN (dirP id)) = _
    rw [if_pos rfl]
  · show (if fileP id = dirP id then some none else baseN (fileP id)) ≠ _
    rw [if_neg (Ne.symm (dir_ne_file h h)), baseN, if_neg (Ne.symm (obj_ne_file h))]
    simp
/-- Names with the file. -/
def keptN (id : List UInt8) : Nm := fun q => if q = fileP id then some (some 0) else oneN id q
theorem syncDir_now (S : Fs) (q : ByteArray) : (S.syncDir q).now = S.now := rfl
theorem syncDir_sure (S : Fs) (q : ByteArray) : (S.syncDir q).sure = (S.acts.filter (inP q)).foldl doN S.sure := rfl
theorem syncDir_files (S : Fs) (q : ByteArray) : (S.syncDir q).files = S.files := rfl
theorem enact_acts (S : Fs) (a : Pa) : (S.enact a).acts = S.acts ++ [a] := rfl
theorem enact_sure (S : Fs) (a : Pa) : (S.enact a).sure = S.sure := rfl
theorem enact_files (S : Fs) (a : Pa) : (S.enact a).files = S.files := rfl
theorem setU_acts (S : Fs) (u : Int) : (setU S u).acts = S.acts := rfl
theorem setU_sure (S : Fs) (u : Int) : (setU S u).sure = S.sure := rfl
theorem setU_files (S : Fs) (u : Int) : (setU S u).files = S.files := rfl
theorem laid_now {S : Fs} {id : List UInt8} (hl : id.length = 32) (h : Ready S id) (p : ByteArray) (u : Int) : (laidS S id p u).now = fun q => if q = fileP id then some (some S.came) else S.now q := by
  unfold laidS
  rw [syncDir_now, movS_now, moved_now hl h p]
theorem laid_files (S : Fs) (id : List UInt8) (p : ByteArray) (u : Int) : (laidS S id p u).files = updF (updF S.files S.came ⟨p, ⟨#[]⟩⟩) S.came ⟨p, p⟩ := by
  unfold laidS movS
  rw [syncDir_files, setU_files, enact_files]
  rfl
theorem in_inc_dir {id : List UInt8} (h : id.length = 32) (x : Option Nat) : inP (dirP id) ⟨0, incP, ⟨#[]⟩, x⟩ = false := by
  unfold inP inB
  rw [show dirOf (⟨0, incP, ⟨#[]⟩, x⟩ : Pa).p = objP from dir_inc, toL_eq, decide_eq_false (obj_ne_dir h)]
  rfl
theorem in_move_dir (id : List UInt8) (x : Option Nat) : inP (dirP id) ⟨1, incP, fileP id, x⟩ = true := by
  unfold inP inB
  rw [show dirOf (⟨1, incP, fileP id, x⟩ : Pa).to = dirP id from dir_file id, toL_eq (dirP id)]
  simp
/-- What is done to the sure names. -/
theorem moved_sure {n : Nm} {id : List UInt8} (c : Nat) (h1 : n (dirP id) = some none) (hl : id.length = 32) (h2 : n (fileP id) ≠ some none) : doN n ⟨1, incP, fileP id, some c⟩ = fun q => if q = fileP id then some (some c) else if q = incP ∧ pvN n incP = some c then none else n q := by
  unfold doN
  have hf : isDir n (fileP id) = false := isDir_not (ne_nil_of (by rw [file_len hl]; decide)) h2
  rw [if_neg (show ¬ (1 : Nat) = 0 by decide), if_pos rfl, if_pos ⟨by show isDir n (dirOf (fileP id)) = true; rw [dir_file]; exact isDir_of h1, .inl hf⟩]
theorem one_sure {room : Nat} {id : List UInt8} (hl : id.length = 32) (p : ByteArray) (u : Int) : (laidS (oneS room id) id p u).sure = keptN id := by
  have hr := one_ready (room := room) hl
  unfold laidS movS
  rw [syncDir_sure, setU_acts, setU_sure, enact_acts, enact_sure]
  have ea : (inS (oneS room id) p).acts = [⟨0, incP, ⟨#[]⟩, some 0⟩] := rfl
  have es : (inS (oneS room id) p).sure = oneN id := rfl
  have ec : (oneS room id).came = 0 := rfl
  rw [ea, es, ec]
  simp only [List.cons_append, List.nil_append, List.filter_cons, in_inc_dir hl, in_move_dir, List.filter_nil, if_true, Bool.false_eq_true, if_false, List.foldl_cons, List.foldl_nil]
  rw [moved_sure (n := oneN id) 0 hr.dir hl hr.file]
  funext q
  unfold keptN
  by_cases e : q = fileP id
  · simp [e]
  · rw [if_neg e, if_neg e]
    have hi : oneN id incP = none := hr.inc
    rw [if_neg (fun h => by have := h.2; unfold pvN at this; rw [hi] at this; cases this)]
theorem one_now {room : Nat} {id : List UInt8} (hl : id.length = 32) (p : ByteArray) (u : Int) : (laidS (oneS room id) id p u).now = keptN id := by
  rw [laid_now hl (one_ready hl) p u]
  rfl
theorem one_file (room : Nat) (id : List UInt8) (p : ByteArray) (u : Int) : (laidS (oneS room id) id p u).files 0 = ⟨p, p⟩ := by
  rw [laid_files]
  rfl
section
variable {n0 : Nat} {A : Nat → Prop} {b : Nat} {w w' : World} {fb room : Nat} {S : Fs}
theorem mf_one (h : St P0 n0 A b w fb (baseS room)) (hb : b < 880) {id : List UInt8} (hl : id.length = 32) :
    Calls Tryz.prog 50 #[.pointer (some ⟨fb, 0, none⟩), .string objP, .string (dirP id)] w fun e w' => e = .returned (.int .i64 0) ∧ StTo P0 n0 A (b + 2) w fb (oneS room id) w' := by
  have e2 : (baseS room).syE (dirP id) = 2 := sy_none (dirP_path hl) (base_dir hl)
  have e0 : (baseS room).mkE (dirP id) = 0 := by
    unfold Fs.mkE
    rw [if_pos (dirP_path hl), dir_dir, show (baseS room).now = baseN from rfl, isDir_of base_obj, base_dir hl]
    rfl
  have en : ((baseS room).enact ⟨0, dirP id, ⟨#[]⟩, none⟩).nfE objP = 0 := by
    refine nf_of objP_path ?_
    rw [enact_now, show (baseS room).now = baseN from rfl, do_dir hl]
    exact (one_ready (room := room) hl).obj
  have := mf_made h (by omega) objP (dirP id) (by rw [objP_size]; decide) (by rw [dirP_size hl]; decide) (by rw [e2]; decide) (by rw [e2]; decide) e0 en
  rw [one_eq room hl] at this
  exact this
/-- Put at a new place. -/
theorem put_base (h : St P0 n0 A b w fb (baseS room)) (hb : b < 860) (body : List UInt8) (hbl : body.length ≤ 262144) :
    Calls Tryz.prog 12 #[.pointer (some ⟨fb, 0, none⟩), .string (Vc.bs (Ob.rawL 1 body))] w fun e w' =>
      (room < (prP (Ob.rawL 1 body)).size ∧ e = .returned (.tuple #[.string ⟨#[]⟩, .int .i64 33]) ∧ StTo P0 n0 A (b + 2) w fb (oneS room (idL (Ob.rawL 1 body))) w') ∨
      ((prP (Ob.rawL 1 body)).size ≤ room ∧ e = .returned (.tuple #[.string (Vc.bs (idL (Ob.rawL 1 body))), .int .i64 0]) ∧ ∃ u, StTo P0 n0 A (b + 6) w fb (laidS (oneS room (idL (Ob.rawL 1 body))) (idL (Ob.rawL 1 body)) (prP (Ob.rawL 1 body)) u) w') := by
  have hrl := Ob.raw_len 1 body (by omega)
  have HLB := links_blob body hbl w h.ok.ok
  obtain ⟨raw, hraw⟩ : ∃ raw, Ob.rawL 1 body = raw := ⟨_, rfl⟩
  rw [hraw] at hrl HLB ⊢
  have hr : raw.length ≤ 1048576 := by omega
  have hl := id_len raw
  have hps := press_le raw hr
  have hn : (baseS room).now (fileP (idL raw)) = none := by
    show baseN (fileP (idL raw)) = none
    rw [baseN, if_neg (Ne.symm (obj_ne_file hl))]
  have hL : Calls Tryz.prog 28 #[.string (Vc.bs raw)] w fun e w' => (∃ v, e = .returned (.tuple #[v, .int .i64 0])) ∧ Below w.heap.size w w' := HLB.mono fun e w' ⟨he, hb⟩ => ⟨⟨_, he⟩, hb⟩
  have hpos : 0 < (prP raw).size := by
    rw [prP, Vc.bs_size, Ld.Lz.press, List.length_append]
    have h1 : 0 < (Cb.Cd.numL raw.length).length := by
      rw [Cb.Cd.numL, List.length_reverse, Cb.Cd.numR, List.length_cons]
      omega
    omega
  have hy : ∀ X, Kept [] w X → Calls Tryz.prog 31 #[.pointer (some ⟨fb, 0, none⟩), .string (Vc.bs (idL raw)), .string (prP raw)] X fun e w' => (Full 0 room ((prP raw).size : Int) ∧ e = .returned (.int .i64 33) ∧ StTo P0 n0 A (b + 2) w fb (oneS room (idL raw)) w') ∨ (¬ Full 0 room ((prP raw).size : Int) ∧ e = .returned (.int .i64 0) ∧ ∃ u, StTo P0 n0 A (b + 6) w fb (laidS (oneS room (idL raw)) (idL raw) (prP raw) u) w') := fun X hX => by
    refine (lay_any (idL raw) hl (prP raw) (by omega) (one_ready (room := room) hl) (b := b + 2) (n0 := n0) (A := A) (by omega) (fun Y hY => (mf_one ((h.kept hX).kept hY) (by omega) hl).mono fun e w' ⟨he, hs⟩ => ⟨he, StTo.step (fun _ hg => .inl hg) (Out.kept hY) hs⟩)).mono fun e w' hr' => ?_
    rcases hr' with ⟨h1, h2, h3⟩ | ⟨h1, h2, u, _, h3⟩
    · exact .inl ⟨h1, h2, StTo.step (fun _ hg => .inl hg) (Out.kept hX) h3⟩
    · exact .inr ⟨h1, h2, u, StTo.step (fun _ hg => .inl hg) (Out.kept hX) h3⟩
  have hg : ∀ X, Kept [] w X → Calls Tryz.prog 14 #[.pointer (some ⟨fb, 0, none⟩), .string (Vc.bs (idL raw))] X fun e w' => e = .returned (.tuple #[.string ⟨#[]⟩, .int .i64 2]) ∧ Kept [] X w' := fun X hX => get_gone (h.kept hX) (idL raw) hl hn
  have hok : ∀ X, Kept [] w X → Ob.Ok X := fun X hX => (h.kept hX).ok.ok
  by_cases hfu : room < (prP raw).size
  · have hF : Full 0 room ((prP raw).size : Int) := ⟨by omega, by omega⟩
    refine (put_lay raw hr hok hL 2 (by decide) hg 33 (StTo P0 n0 A (b + 2) w fb (oneS room (idL raw))) (fun X hX => (hy X hX).mono fun e w' hr' => ?_)).mono fun e w' ⟨he, hs⟩ => .inl ⟨hfu, ?_, hs⟩
    · rcases hr' with ⟨_, h2, h3⟩ | ⟨h1, _⟩
      · exact ⟨h2, h3⟩
      · exact absurd hF h1
    · rw [if_neg (by decide)] at he
      exact he
  · have hF : ¬ Full 0 room ((prP raw).size : Int) := fun hF => hfu (by have := hF.1; omega)
    refine (put_lay raw hr hok hL 2 (by decide) hg 0 (fun w' => ∃ u, StTo P0 n0 A (b + 6) w fb (laidS (oneS room (idL raw)) (idL raw) (prP raw) u) w') (fun X hX => (hy X hX).mono fun e w' hr' => ?_)).mono fun e w' ⟨he, hs⟩ => .inr ⟨by omega, ?_, hs⟩
    · rcases hr' with ⟨h1, _⟩ | ⟨_, h2, h3⟩
      · exact absurd h1 hF
      · exact ⟨h2, h3⟩
    · rw [if_pos rfl] at he
      exact he
end
end Go.Proofs.YtbmhhlkjgnijgaaGreatDoor.Lo
namespace Go.Proofs.YtbmhhlkjgnijgaaGreatDoor.Lo
open Vc Go.RowKit Go.Shelf
/-- Objects are kept under these ids, and nothing else is there but folders. -/
structure Kp (S : Fs) (K : List (List UInt8)) : Prop where
  len : ∀ id ∈ K, id.length = 32
  nd : K.Nodup
  obj : S.now objP = some none
  inc : S.now incP = none
  dir : ∀ id ∈ K, S.now (dirP id) = some none
  dirs : ∀ id : List UInt8, id.length = 32 → (S.now (dirP id) = none ∨ S.now (dirP id) = some none) ∧ S.sure (dirP id) = S.now (dirP id)
  file : ∀ id ∈ K, ∃ x raw, x < S.came ∧ S.now (fileP id) = some (some x) ∧ S.files x = ⟨prP raw, prP raw⟩ ∧ idL raw = id ∧ raw.length ≤ 1048576
  only : ∀ q, S.now q ≠ none → q = objP ∨ (∃ id : List UInt8, id.length = 32 ∧ q = dirP id) ∨ ∃ id ∈ K, q = fileP id
  sobj : S.sure objP = some none
  sinc : S.sure incP ≠ some none
  sfile : ∀ id : List UInt8, id.length = 32 → S.sure (fileP id) = S.now (fileP id)
  sonly : ∀ q, S.sure q ≠ none → q = objP ∨ q = incP ∨ (∃ id : List UInt8, id.length = 32 ∧ q = dirP id) ∨ ∃ id ∈ K, q = fileP id
  acts : ∀ a ∈ S.acts, ∃ x, a = ⟨0, incP, ⟨#[]⟩, some x⟩ ∧ x < S.came
  sub : ∀ x, S.sure incP = some (some x) → x < S.came
theorem base_at (q : ByteArray) (hq : q ≠ objP) : baseN q = none := by unfold baseN; rw [if_neg hq]
theorem kp_base (room : Nat) : Kp (baseS room) [] := by
  have hb : ∀ q, baseN q ≠ none → q = objP := fun q hq => by
    by_cases e : q = objP
    · exact e
    · exact absurd (base_at q e) hq
  refine ⟨fun _ h => (by cases h), List.nodup_nil, base_obj, base_at _ (Ne.symm obj_ne_inc), fun _ h => (by cases h), fun id hl => ⟨.inl (base_at _ (Ne.symm (obj_ne_dir hl))), rfl⟩, fun _ h => (by cases h), fun q hq => .inl (hb q hq), base_obj, ?_, fun _ _ => rfl, fun q hq => .inl (hb q hq), fun _ h => (by cases h), fun x hx => ?_⟩
  · show baseN incP ≠ some none
    rw [base_at _ (Ne.symm obj_ne_inc)]
    simp
  · have hx' : baseN incP = some (some x) := hx
    rw [base_at _ (Ne.symm obj_ne_inc)] at hx'
    cases hx'
/-- Something comes. -/
theorem comes_at (n : Nm) (a : Pa) (hk : a.kind = 0) (q : ByteArray) : doN n a q = n q ∨ (q = a.p ∧ n q = none ∧ doN n a q = some a.f) := by
  unfold doN
  rw [if_pos hk]
  by_cases h : n a.p = none ∧ isDir n (dirOf a.p) = true
  · rw [if_pos h]
    by_cases e : q = a.p
    · right
      subst e
      exact ⟨rfl, h.1, by simp⟩
    · left
      simp [e]
  · rw [if_neg h]
    exact .inl rfl
/-- What is coming in comes, again and again: all else stays. -/
theorem incs_at : ∀ (l : List Pa) (n : Nm), (∀ a ∈ l, ∃ x, a = (⟨0, incP, ⟨#[]⟩, some x⟩ : Pa)) → (∀ q, q ≠ incP → l.foldl doN n q = n q) ∧ (n incP ≠ some none → l.foldl doN n incP ≠ some none) ∧ ∀ x, l.foldl doN n incP = some (some x) → n incP = some (some x) ∨ ∃ a ∈ l, a.f = some x
  | [], n, _ => ⟨fun _ _ => rfl, fun h => h, fun x h => .inl h⟩
  | a :: t, n, h => by
    obtain ⟨x, hx⟩ := h a (by simp)
    obtain ⟨h1, h2, h3⟩ := incs_at t (doN n a) (fun b hb => h b (List.mem_cons_of_mem _ hb))
    have hc := comes_at n a (by rw [hx])
    refine ⟨fun q hq => ?_, fun hn => ?_, fun y hy => ?_⟩
    · rw [List.foldl_cons, h1 q hq]
      rcases hc q with e | ⟨e, _⟩
      · exact e
      · rw [hx] at e; exact absurd e hq
    · rw [List.foldl_cons]
      refine h2 ?_
      rcases hc incP with e | ⟨_, _, e⟩
      · rw [e]; exact hn
      · rw [e, hx]; simp
    · rw [List.foldl_cons] at hy
      rcases h3 y hy with e | ⟨b, hb, e⟩
      · rcases hc incP with e2 | ⟨_, _, e2⟩
        · rw [e2] at e; exact .inl e
        · rw [e2] at e
          simp only [Option.some.injEq] at e
          exact .inr ⟨a, by simp, e⟩
      · exact .inr ⟨b, List.mem_cons_of_mem _ hb, e⟩
theorem in_inc_obj (x : Option Nat) : inP objP ⟨0, incP, ⟨#[]⟩, x⟩ = true := by
  unfold inP inB
  rw [show dirOf (⟨0, incP, ⟨#[]⟩, x⟩ : Pa).p = objP from dir_inc]
  simp
theorem filter_in {l : List Pa} (h : ∀ a ∈ l, ∃ x, a = (⟨0, incP, ⟨#[]⟩, some x⟩ : Pa)) : l.filter (inP objP) = l := List.filter_eq_self.2 fun a ha => by
  obtain ⟨x, rfl⟩ := h a ha
  exact in_inc_obj _
theorem filter_out {l : List Pa} {id : List UInt8} (hl : id.length = 32) (h : ∀ a ∈ l, ∃ x, a = (⟨0, incP, ⟨#[]⟩, some x⟩ : Pa)) : l.filter (inP (dirP id)) = [] := List.filter_eq_nil_iff.2 fun a ha => by
  obtain ⟨x, rfl⟩ := h a ha
  rw [in_inc_dir hl]
  simp
theorem Kp.incs {S : Fs} {K : List (List UInt8)} (h : Kp S K) : ∀ a ∈ S.acts, ∃ x, a = (⟨0, incP, ⟨#[]⟩, some x⟩ : Pa) := fun a ha => by
  obtain ⟨x, hx, _⟩ := h.acts a ha
  exact ⟨x, hx⟩
/-- Nothing stands at an id that is not kept. -/
theorem Kp.none {S : Fs} {K : List (List UInt8)} (h : Kp S K) {id : List UInt8} (hl : id.length = 32) (hn : id ∉ K) : S.now (fileP id) = none := by
  cases hq : S.now (fileP id) with
  | none => rfl
  | some v =>
    exfalso
    rcases h.only (fileP id) (by rw [hq]; simp) with e | ⟨jd, hj, e⟩ | ⟨jd, hj, e⟩
    · exact obj_ne_file hl e.symm
    · exact dir_ne_file hj hl e.symm
    · exact hn (file_inj hl (h.len jd hj) e ▸ hj)
/-- A folder is made, for sure. -/
noncomputable def dirS (S : Fs) (id : List UInt8) : Fs := (S.enact ⟨0, dirP id, ⟨#[]⟩, none⟩).syncDir objP
theorem dirS_now {S : Fs} {K : List (List UInt8)} (h : Kp S K) {id : List UInt8} (hd : S.now (dirP id) = Option.none) : (dirS S id).now = fun q => if q = dirP id then some Option.none else S.now q := by
  unfold dirS
  rw [syncDir_now, enact_now, doN_comes hd (by rw [dir_dir]; exact isDir_of h.obj)]
theorem dirS_sure {S : Fs} {K : List (List UInt8)} (h : Kp S K) {id : List UInt8} (hl : id.length = 32) (hd : S.now (dirP id) = Option.none) : (∀ q, q ≠ incP → (dirS S id).sure q = if q = dirP id then some Option.none else S.sure q) ∧ (dirS S id).sure incP ≠ some Option.none ∧ ∀ x, (dirS S id).sure incP = some (some x) → x < S.came := by
  obtain ⟨h1, h2, h3⟩ := incs_at S.acts S.sure h.incs
  have hs : (dirS S id).sure = doN (S.acts.foldl doN S.sure) ⟨0, dirP id, ⟨#[]⟩, Option.none⟩ := by
    unfold dirS
    rw [syncDir_sure, enact_acts, enact_sure, List.filter_append, filter_in h.incs]
    simp only [List.filter_cons, in_dir_obj, List.filter_nil, if_true, List.foldl_append, List.foldl_cons, List.foldl_nil]
  have hn : S.acts.foldl doN S.sure (dirP id) = Option.none := by rw [h1 _ (inc_ne_dir hl), (h.dirs id hl).2, hd]
  rw [doN_comes hn (by rw [dir_dir]; exact isDir_of (by rw [h1 _ obj_ne_inc]; exact h.sobj))] at hs
  rw [hs]
  refine ⟨fun q hq => ?_, ?_, fun x hx => ?_⟩
  · by_cases e : q = dirP id
    · simp [e]
    · simp only [if_neg e]
      exact h1 q hq
  · simp only [if_neg (Ne.symm (inc_ne_dir hl))]
    exact h2 h.sinc
  · simp only [if_neg (Ne.symm (inc_ne_dir hl))] at hx
    rcases h3 x hx with e | ⟨a, ha, e⟩
    · exact h.sub x e
    · obtain ⟨y, rfl, hy⟩ := h.acts a ha
      simp only [Option.some.injEq] at e
      omega
theorem dirS_acts {S : Fs} {K : List (List UInt8)} (h : Kp S K) (id : List UInt8) : (dirS S id).acts = [] := by
  show ((S.enact ⟨0, dirP id, ⟨#[]⟩, Option.none⟩).acts).filter (fun a => !inP objP a) = []
  rw [enact_acts, List.filter_append, List.filter_eq_nil_iff.2]
  · simp [in_dir_obj]
  · intro a ha
    obtain ⟨x, rfl⟩ := h.incs a ha
    simp [in_inc_obj]
theorem dirS_rest (S : Fs) (id : List UInt8) : (dirS S id).files = S.files ∧ (dirS S id).came = S.came ∧ (dirS S id).used = S.used ∧ (dirS S id).room = S.room := ⟨rfl, rfl, rfl, rfl⟩
theorem Kp.mkdir {S : Fs} {K : List (List UInt8)} (h : Kp S K) {id : List UInt8} (hl : id.length = 32) (hd : S.now (dirP id) = Option.none) : Kp (dirS S id) K ∧ (dirS S id).now (dirP id) = some Option.none := by
  have hn := dirS_now h hd
  obtain ⟨s1, s2, s3⟩ := dirS_sure h hl hd
  obtain ⟨r1, r2, _, _⟩ := dirS_rest S id
  have ne : ∀ q, q ≠ dirP id → (dirS S id).now q = S.now q := fun q hq => by rw [hn]; simp [hq]
  have eq : (dirS S id).now (dirP id) = some Option.none := by rw [hn]; simp
  refine ⟨⟨h.len, h.nd, by rw [ne _ (obj_ne_dir hl)]; exact h.obj, by rw [ne _ (Ne.symm (inc_ne_dir hl))]; exact h.inc, fun jd hj => ?_, fun jd hj => ?_, fun jd hj => ?_, fun q hq => ?_, ?_, s2, fun jd hj => ?_, fun q hq => ?_, fun a ha => ?_, fun x hx => by rw [r2]; exact s3 x hx⟩, eq⟩
  · by_cases e : dirP jd = dirP id
    · rw [e]; exact eq
    · rw [ne _ e]; exact h.dir jd hj
  · rw [s1 _ (inc_ne_dir hj)]
    by_cases e : dirP jd = dirP id
    · rw [e, eq, if_pos rfl]
      exact ⟨.inr rfl, rfl⟩
    · rw [ne _ e, if_neg e]
      exact h.dirs jd hj
  · obtain ⟨x, raw, h1, h2, h3⟩ := h.file jd hj
    exact ⟨x, raw, by rw [r2]; exact h1, by rw [ne _ (Ne.symm (dir_ne_file hl (h.len jd hj)))]; exact h2, by rw [r1]; exact h3⟩
  · by_cases e : q = dirP id
    · exact .inr (.inl ⟨id, hl, e⟩)
    · rw [ne q e] at hq
      exact h.only q hq
  · rw [s1 _ obj_ne_inc, if_neg (obj_ne_dir hl)]
    exact h.sobj
  · rw [s1 _ (inc_ne_file hj), if_neg (Ne.symm (dir_ne_file hl hj)), ne _ (Ne.symm (dir_ne_file hl hj))]
    exact h.sfile jd hj
  · by_cases e0 : q = incP
    · exact .inr (.inl e0)
    · rw [s1 q e0] at hq
      by_cases e : q = dirP id
      · exact .inr (.inr (.inl ⟨id, hl, e⟩))
      · rw [if_neg e] at hq
        exact h.sonly q hq
  · rw [dirS_acts h id] at ha
    cases ha
/-- It can take the file. -/
theorem Kp.ready {S : Fs} {K : List (List UInt8)} (h : Kp S K) {id : List UInt8} (hl : id.length = 32) (hd : S.now (dirP id) = some Option.none) (hn : id ∉ K) : Ready S id := ⟨h.obj, h.inc, hd, by rw [h.none hl hn]; simp⟩
theorem laid_sure {S : Fs} {K : List (List UInt8)} (h : Kp S K) {id : List UInt8} (hl : id.length = 32) (hd : S.now (dirP id) = some Option.none) (hn : id ∉ K) (p : ByteArray) (u : Int) : (laidS S id p u).sure = fun q => if q = fileP id then some (some S.came) else S.sure q := by
  unfold laidS movS
  rw [syncDir_sure, setU_acts, setU_sure, enact_acts, enact_sure]
  have ea : (inS S p).acts = S.acts ++ [⟨0, incP, ⟨#[]⟩, some S.came⟩] := rfl
  have es : (inS S p).sure = S.sure := rfl
  rw [ea, es, List.filter_append, List.filter_append, filter_out hl h.incs]
  simp only [List.nil_append, List.filter_cons, in_inc_dir hl, in_move_dir, List.filter_nil, if_true, Bool.false_eq_true, if_false, List.foldl_cons, List.foldl_nil]
  rw [moved_sure S.came (by rw [(h.dirs id hl).2]; exact hd) hl (by rw [h.sfile id hl, h.none hl hn]; simp)]
  funext q
  by_cases e : q = fileP id
  · simp [e]
  · rw [if_neg e, if_neg e, if_neg]
    rintro ⟨_, h2⟩
    have := h.sub S.came (now_of_pv h2)
    omega
theorem laid_acts {S : Fs} {K : List (List UInt8)} (h : Kp S K) {id : List UInt8} (hl : id.length = 32) (p : ByteArray) (u : Int) : (laidS S id p u).acts = S.acts ++ [⟨0, incP, ⟨#[]⟩, some S.came⟩] := by
  show ((movS S id p u).acts).filter (fun a => !inP (dirP id) a) = _
  unfold movS
  rw [setU_acts, enact_acts]
  have ea : (inS S p).acts = S.acts ++ [⟨0, incP, ⟨#[]⟩, some S.came⟩] := rfl
  rw [ea, List.filter_append, List.filter_append]
  have e1 : S.acts.filter (fun a => !inP (dirP id) a) = S.acts := List.filter_eq_self.2 fun a ha => by
    obtain ⟨x, rfl⟩ := h.incs a ha
    simp [in_inc_dir hl]
  rw [e1]
  simp [in_inc_dir hl, in_move_dir]
theorem syncDir_rest (S : Fs) (q : ByteArray) : (S.syncDir q).came = S.came ∧ (S.syncDir q).used = S.used ∧ (S.syncDir q).room = S.room := ⟨rfl, rfl, rfl⟩
theorem setU_rest (S : Fs) (u : Int) : (setU S u).came = S.came ∧ (setU S u).room = S.room := ⟨rfl, rfl⟩
theorem enact_rest (S : Fs) (a : Pa) : (S.enact a).came = S.came ∧ (S.enact a).room = S.room := ⟨rfl, rfl⟩
theorem laid_rest (S : Fs) (id : List UInt8) (p : ByteArray) (u : Int) : (laidS S id p u).came = S.came + 1 ∧ (laidS S id p u).used = u ∧ (laidS S id p u).room = S.room := by
  unfold laidS movS
  obtain ⟨a1, a2, a3⟩ := syncDir_rest (setU ((inS S p).enact ⟨1, incP, fileP id, some S.came⟩) u) (dirP id)
  obtain ⟨c1, c3⟩ := setU_rest ((inS S p).enact ⟨1, incP, fileP id, some S.came⟩) u
  obtain ⟨d1, d3⟩ := enact_rest (inS S p) ⟨1, incP, fileP id, some S.came⟩
  rw [a1, a2, a3, c1, c3, d1, d3]
  exact ⟨rfl, rfl, rfl⟩
/-- The object is kept. -/
theorem Kp.laid {S : Fs} {K : List (List UInt8)} (h : Kp S K) {raw : List UInt8} (hr : raw.length ≤ 1048576) (hd : S.now (dirP (idL raw)) = some Option.none) (hn : idL raw ∉ K) (u : Int) : Kp (laidS S (idL raw) (prP raw) u) (idL raw :: K) := by
  have hl := id_len raw
  have hN := laid_now hl (h.ready hl hd hn) (prP raw) u
  have hU := laid_sure h hl hd hn (prP raw) u
  have hA := laid_acts h hl (prP raw) u
  have hF := laid_files S (idL raw) (prP raw) u
  obtain ⟨hC, _, _⟩ := laid_rest S (idL raw) (prP raw) u
  generalize hid : idL raw = id at hl hd hn hN hU hA hF hC ⊢
  generalize laidS S id (prP raw) u = T at hN hU hA hF hC ⊢
  have ne : ∀ q, q ≠ fileP id → T.now q = S.now q := fun q hq => by rw [hN]; simp [hq]
  have eq : T.now (fileP id) = some (some S.came) := by rw [hN]; simp
  have se : ∀ q, q ≠ fileP id → T.sure q = S.sure q := fun q hq => by rw [hU]; simp [hq]
  refine ⟨fun jd hj => ?_, List.nodup_cons.2 ⟨hn, h.nd⟩, by rw [ne _ (obj_ne_file hl)]; exact h.obj, by rw [ne _ (Ne.symm (inc_ne_file hl))]; exact h.inc, fun jd hj => ?_, fun jd hj => ?_, fun jd hj => ?_, fun q hq => ?_, by rw [se _ (obj_ne_file hl)]; exact h.sobj, by rw [se _ (Ne.symm (inc_ne_file hl))]; exact h.sinc, fun jd hj => ?_, fun q hq => ?_, fun a ha => ?_, fun x hx => ?_⟩
  · rcases List.mem_cons.1 hj with rfl | hj
    · exact hl
    · exact h.len jd hj
  · have hjl : jd.length = 32 := by
      rcases List.mem_cons.1 hj with rfl | hj
      · exact hl
      · exact h.len jd hj
    rw [ne _ (dir_ne_file hjl hl)]
    rcases List.mem_cons.1 hj with rfl | hj
    · exact hd
    · exact h.dir jd hj
  · rw [ne _ (dir_ne_file hj hl), se _ (dir_ne_file hj hl)]
    exact h.dirs jd hj
  · rcases List.mem_cons.1 hj with rfl | hj
    · exact ⟨S.came, raw, by omega, eq, by rw [hF]; simp [updF], hid, hr⟩
    · obtain ⟨x, r', h1, h2, h3, h4⟩ := h.file jd hj
      refine ⟨x, r', by omega, ?_, ?_, h4⟩
      · rw [ne _ (fun e => hn (file_inj (h.len jd hj) hl e ▸ hj))]
        exact h2
      · rw [hF]
        simp only [updF]
        rw [if_neg (by omega), if_neg (by omega)]
        exact h3
  · by_cases e : q = fileP id
    · exact .inr (.inr ⟨id, by simp, e⟩)
    · rw [ne q e] at hq
      rcases h.only q hq with h1 | h1 | ⟨jd, hj, h1⟩
      · exact .inl h1
      · exact .inr (.inl h1)
      · exact .inr (.inr ⟨jd, List.mem_cons_of_mem _ hj, h1⟩)
  · by_cases e : fileP jd = fileP id
    · rw [e, hU, hN]
      simp
    · rw [ne _ e, se _ e]
      exact h.sfile jd hj
  · by_cases e : q = fileP id
    · exact .inr (.inr (.inr ⟨id, by simp, e⟩))
    · rw [se q e] at hq
      rcases h.sonly q hq with h1 | h1 | h1 | ⟨jd, hj, h1⟩
      · exact .inl h1
      · exact .inr (.inl h1)
      · exact .inr (.inr (.inl h1))
      · exact .inr (.inr (.inr ⟨jd, List.mem_cons_of_mem _ hj, h1⟩))
  · rw [hA] at ha
    rcases List.mem_append.1 ha with ha | ha
    · obtain ⟨x, h1, h2⟩ := h.acts a ha
      exact ⟨x, h1, by omega⟩
    · simp at ha
      exact ⟨S.came, ha, by omega⟩
  · rw [se _ (Ne.symm (inc_ne_file hl))] at hx
    have := h.sub x hx
    omega
end Go.Proofs.YtbmhhlkjgnijgaaGreatDoor.Lo
namespace Go.Proofs.YtbmhhlkjgnijgaaGreatDoor.Lo
open Vc Go.RowKit Go.Shelf
section
variable {n0 : Nat} {A : Nat → Prop} {b : Nat} {w w' : World} {fb : Nat} {S : Fs} {K : List (List UInt8)}
/-- The folder of an id, whether it was there or not. -/
theorem mf_kp (h : St P0 n0 A b w fb S) (hK : Kp S K) (hb : b < 880) {id : List UInt8} (hl : id.length = 32) :
    ∃ S1 b1, b1 ≤ b + 2 ∧ Kp S1 K ∧ S1.now (dirP id) = some none ∧ S1.used = S.used ∧ S1.room = S.room ∧ ∀ X, Kept [] w X → Calls Tryz.prog 50 #[.pointer (some ⟨fb, 0, none⟩), .string objP, .string (dirP id)] X fun e w' => e = .returned (.int .i64 0) ∧ StTo P0 n0 A b1 X fb S1 w' := by
  rcases (hK.dirs id hl).1 with hd | hd
  · obtain ⟨k1, k2⟩ := hK.mkdir hl hd
    obtain ⟨_, _, r3, r4⟩ := dirS_rest S id
    refine ⟨dirS S id, b + 2, Nat.le_refl _, k1, k2, r3, r4, fun X hX => ?_⟩
    have e2 : S.syE (dirP id) = 2 := sy_none (dirP_path hl) hd
    have e0 : S.mkE (dirP id) = 0 := by
      unfold Fs.mkE
      rw [if_pos (dirP_path hl), dir_dir, isDir_of hK.obj, hd]
      rfl
    have en : (S.enact ⟨0, dirP id, ⟨#[]⟩, none⟩).nfE objP = 0 := by
      refine nf_of objP_path ?_
      rw [enact_now, doN_comes hd (by rw [dir_dir]; exact isDir_of hK.obj)]
      simp only [if_neg (obj_ne_dir hl)]
      exact hK.obj
    exact (mf_made (h.kept hX) (by omega) objP (dirP id) (by rw [objP_size]; decide) (by rw [dirP_size hl]; decide) (by rw [e2]; decide) (by rw [e2]; decide) e0 en)
  · refine ⟨S, b, by omega, hK, hd, rfl, rfl, fun X hX => ?_⟩
    have e2 : S.syE (dirP id) = 31 := sy_dir (dirP_path hl) hd
    exact (mf_there (h.kept hX) objP (dirP id) (by rw [dirP_size hl]; decide) e2).mono fun e w' ⟨he, hk⟩ => ⟨he, StTo.kept (h.kept hX) hk⟩
/-- An object that is kept is got. -/
theorem get_kp (h : St P0 n0 A b w fb S) (hK : Kp S K) {id : List UInt8} (hi : id ∈ K) :
    ∃ raw, idL raw = id ∧ raw.length ≤ 1048576 ∧ Calls Tryz.prog 14 #[.pointer (some ⟨fb, 0, none⟩), .string (Vc.bs id)] w fun e w' => e = .returned (.tuple #[.string (Vc.bs raw), .int .i64 0]) ∧ Kept [] w w' := by
  obtain ⟨x, raw, _, h2, h3, h4, h5⟩ := hK.file id hi
  refine ⟨raw, h4, h5, (get_there h id (hK.len id hi) h2).mono fun e w' ⟨he, hk⟩ => ⟨?_, hk⟩⟩
  rw [he, h3]
  show Ending.returned (getV (getR (prP raw) id)) = _
  rw [← h4, get_press raw h5]
  rfl
/-- Put keeps one more, or it is there. -/
theorem put_kp (h : St P0 n0 A b w fb S) (hK : Kp S K) (hb : b < 860) (raw : List UInt8) (hr : raw.length ≤ 1048576) (hroom : S.used + ((prP raw).size : Int) ≤ S.room)
    (HL : Calls Tryz.prog 28 #[.string (Vc.bs raw)] w fun e w' => (∃ v, e = .returned (.tuple #[v, .int .i64 0])) ∧ Below w.heap.size w w') :
    Calls Tryz.prog 12 #[.pointer (some ⟨fb, 0, none⟩), .string (Vc.bs raw)] w fun e w' => e = .returned (.tuple #[.string (Vc.bs (idL raw)), .int .i64 0]) ∧
      ∃ S' b' K', b' ≤ b + 6 ∧ Kp S' K' ∧ S'.used ≤ S.used + ((prP raw).size : Int) ∧ S'.room = S.room ∧ (∀ id, id ∈ K' ↔ id = idL raw ∨ id ∈ K) ∧ StTo P0 n0 A b' w fb S' w' := by
  have hl := id_len raw
  have hps := press_le raw hr
  have hok : ∀ X, Kept [] w X → Ob.Ok X := fun X hX => (h.kept hX).ok.ok
  by_cases hi : idL raw ∈ K
  · obtain ⟨x, raw', _, h2, h3, h4, h5⟩ := hK.file _ hi
    have hg : ∀ X, Kept [] w X → Calls Tryz.prog 14 #[.pointer (some ⟨fb, 0, none⟩), .string (Vc.bs (idL raw))] X fun e w' => e = .returned (.tuple #[.string (Vc.bs raw'), .int .i64 0]) ∧ Kept [] X w' := fun X hX => by
      refine (get_there (h.kept hX) _ hl h2).mono fun e w' ⟨he, hk⟩ => ⟨?_, hk⟩
      rw [he, h3]
      show Ending.returned (getV (getR (prP raw') (idL raw))) = _
      rw [← h4, get_press raw' h5]
      rfl
    refine (put_same raw hr hok HL hg).mono fun e w' ⟨he, hk⟩ => ⟨he, S, b, K, by omega, hK, by omega, rfl, fun id => ⟨.inr, fun h' => h'.elim (fun e => e ▸ hi) (fun e => e)⟩, StTo.kept h hk⟩
  · obtain ⟨S1, b1, hb1, k1, k2, k3, k4, hmf⟩ := mf_kp h hK (by omega) hl
    have hF : ¬ Full S1.used S1.room ((prP raw).size : Int) := fun hF => by
      have := hF.1
      rw [k3, k4] at this
      omega
    have hg : ∀ X, Kept [] w X → Calls Tryz.prog 14 #[.pointer (some ⟨fb, 0, none⟩), .string (Vc.bs (idL raw))] X fun e w' => e = .returned (.tuple #[.string ⟨#[]⟩, .int .i64 2]) ∧ Kept [] X w' := fun X hX => get_gone (h.kept hX) (idL raw) hl (hK.none hl hi)
    have hy : ∀ X, Kept [] w X → Calls Tryz.prog 31 #[.pointer (some ⟨fb, 0, none⟩), .string (Vc.bs (idL raw)), .string (prP raw)] X fun e w' => e = .returned (.int .i64 0) ∧ ∃ u, u ≤ S1.used + ((prP raw).size : Int) ∧ StTo P0 n0 A (b1 + 4) w fb (laidS S1 (idL raw) (prP raw) u) w' := fun X hX => by
      refine (lay_any (idL raw) hl (prP raw) (by omega) (k1.ready hl k2 hi) (b := b1) (n0 := n0) (A := A) (by omega) (w := X) (fun Y hY => (hmf Y ((hX.trans hY).sub (by simp))).mono fun e w' ⟨he, hs⟩ => ⟨he, StTo.step (fun _ hg => .inl hg) (Out.kept hY) hs⟩)).mono fun e w' hr' => ?_
      rcases hr' with ⟨h1, _⟩ | ⟨_, h2, u, hu, h3⟩
      · exact absurd h1 hF
      · exact ⟨h2, u, hu, StTo.step (fun _ hg => .inl hg) (Out.kept hX) h3⟩
    refine (put_lay raw hr hok HL 2 (by decide) hg 0 (fun w' => ∃ u, u ≤ S1.used + ((prP raw).size : Int) ∧ StTo P0 n0 A (b1 + 4) w fb (laidS S1 (idL raw) (prP raw) u) w') hy).mono fun e w' ⟨he, u, hu, hs⟩ => ?_
    rw [if_pos rfl] at he
    obtain ⟨_, r2, r3⟩ := laid_rest S1 (idL raw) (prP raw) u
    exact ⟨he, _, b1 + 4, idL raw :: K, by omega, k1.laid hr k2 hi u, by rw [r2]; omega, by rw [r3, k4], fun id => List.mem_cons, hs⟩
end
end Go.Proofs.YtbmhhlkjgnijgaaGreatDoor.Lo
namespace Go.Proofs.YtbmhhlkjgnijgaaGreatDoor.Lo
open Vc Go.RowKit Go.Shelf
theorem last_of (a b : List UInt8) (hb : (47 : UInt8) ∉ b) : Lib.lastIndexByte (Vc.bs (a ++ 47 :: b)) 47 = (a.length : Int) := by
  have hsz : (Vc.bs (a ++ 47 :: b)).size = a.length + (b.length + 1) := by rw [Vc.bs_size]; simp
  have hl : (Vc.bs (a ++ 47 :: b)).data.toList = a ++ 47 :: b := Vc.bs_list _
  have hat : ∀ j (hj : j < (Vc.bs (a ++ 47 :: b)).size), (Vc.bs (a ++ 47 :: b)).data[j]! = (a ++ 47 :: b)[j]'(by simp; omega) := fun j hj => by
    rw [getD_at _ j hj]
    simp only [hl]
  have h47 : ((a ++ 47 :: b)[a.length]'(by simp)) = 47 := by simp
  rcases Lib.lastIndexByte_spec (Vc.bs (a ++ 47 :: b)) 47 with ⟨_, h2⟩ | ⟨i, h1, h2, h3, h4⟩
  · have := h2 a.length (by omega)
    rw [hat a.length (by omega), h47] at this
    exact absurd rfl this
  · rw [h2]
    by_cases hlt : i < a.length
    · have := h4 a.length hlt (by omega)
      rw [hat a.length (by omega), h47] at this
      exact absurd rfl this
    · by_cases he : i = a.length
      · rw [he]
      · exfalso
        rw [hat i h1] at h3
        obtain ⟨k, rfl⟩ : ∃ k, i = a.length + (k + 1) := ⟨i - a.length - 1, by omega⟩
        have hlen : k < b.length := by omega
        have e1 : (a ++ 47 :: b)[a.length + (k + 1)]? = b[k]? := by
          rw [List.getElem?_append_right (by omega), Nat.add_sub_cancel_left, List.getElem?_cons_succ]
        rw [List.getElem?_eq_getElem (by simp; omega), List.getElem?_eq_getElem hlen] at e1
        rw [Option.some.inj e1] at h3
        have h47n : (47 : UInt8).toNat = 47 := rfl
        have : b[k]'hlen = 47 := UInt8.toNat_inj.1 (by rw [h47n]; omega)
        exact hb (this ▸ List.getElem_mem hlen)
theorem tail_of (a b : List UInt8) (hb : (47 : UInt8) ∉ b) : (Vc.bs (a ++ 47 :: b)).extract (Lib.lastIndexByte (Vc.bs (a ++ 47 :: b)) 47 + 1).toNat (Vc.bs (a ++ 47 :: b)).size = Vc.bs b := by
  rw [last_of a b hb, ext_bs, Vc.bs_size]
  have e : ((a.length : Int) + 1).toNat = a.length + 1 := by omega
  rw [e]
  congr 1
  rw [List.extract_eq_take_drop, List.drop_append]
  simp only [List.length_append, List.length_cons]
  rw [List.drop_of_length_le (by omega), List.nil_append, show a.length + 1 - a.length = 1 by omega, List.drop_succ_cons, List.drop_zero]
  exact List.take_of_length_le (by omega)
/-- The last names. -/
theorem name_dir (id : List UInt8) : nameB true (dirP id) = Vc.bs (Cb.Cd.hexL (id.take 1) ++ [47]) := by
  unfold nameB
  rw [if_pos rfl, dirP, dirL, tail_of _ _ (hex_all _).2.1]
  show _ ++ Vc.bs [47] = _
  rw [cat_bs]
theorem name_file (id : List UInt8) : nameB false (fileP id) = Vc.bs (Cb.Cd.hexL (id.drop 1)) := by
  unfold nameB
  rw [if_neg (by decide), fileP, fileL, tail_of _ _ (hex_all _).2.1]
/-- A name with a / behind. -/
theorem slsuf_any (N : ByteArray) (hN : N.size = 3) (hE : N.extract 2 3 = ⟨#[47]⟩) (w : World) :
    Calls Tryz.prog 152 #[.string N, .string ⟨#[47]⟩] w fun e w' => e = .returned (.bool true) ∧ w' = w := by
  have a1 : (N.size : Int) = 3 := by omega
  go_enter Tryz.func152, Tryz.ntmps152
  go_wp2
  go_ret
  exact ⟨rfl, rfl⟩
theorem slcuts_any (N r : ByteArray) (hN : N.size = 3) (hE : N.extract 2 3 = ⟨#[47]⟩) (hB : N.extract 0 2 = r) (w : World) :
    Calls Tryz.prog 117 #[.string N, .string ⟨#[47]⟩] w fun e w' => e = .returned (.tuple #[.string r, .bool true]) ∧ w' = w := by
  have H := hideIt (slsuf_any N hN hE w)
  have a1 : (N.size : Int) = 3 := by omega
  subst hB
  go_enter Tryz.func117, Tryz.ntmps117
  go_wp2_with (first | (go_at_call 152; refine H.out.mono ?_; rintro e wx ⟨rfl, hwx⟩; obtain rfl := hwx.symm))
  go_ret2
  exact ⟨rfl, rfl⟩
theorem cuts_any (N r : ByteArray) (hN : N.size = 3) (hE : N.extract 2 3 = ⟨#[47]⟩) (hB : N.extract 0 2 = r) (w : World) :
    Calls Tryz.prog 71 #[.string N, .string ⟨#[47]⟩] w fun e w' => e = .returned (.tuple #[.string r, .bool true]) ∧ w' = w := by
  have H := hideIt (slcuts_any N r hN hE hB w)
  clear hN hE hB
  go_enter Tryz.func71, Tryz.ntmps71
  go_wp2_with (first | (go_at_call 117; refine H.out.mono ?_; rintro e wx ⟨rfl, hwx⟩; obtain rfl := hwx.symm))
  go_ret2
  exact ⟨rfl, rfl⟩
/-- A folder's name is cut. -/
theorem cut_dir (id : List UInt8) (hl : id.length = 32) (w : World) : Calls Tryz.prog 71 #[.string (nameB true (dirP id)), .string ⟨#[47]⟩] w fun e w' => e = .returned (.tuple #[.string (Vc.bs (Cb.Cd.hexL (id.take 1))), .bool true]) ∧ w' = w := by
  have h2 : (Cb.Cd.hexL (id.take 1)).length = 2 := by rw [Cb.Cd.hexL_len]; simp; omega
  rw [name_dir]
  refine cuts_any _ _ (by rw [Vc.bs_size]; simp [h2]) ?_ ?_ w
  · rw [ext_bs]
    show _ = Vc.bs [47]
    congr 1
    rw [List.extract_eq_take_drop, List.drop_append_of_le_length (by omega), List.drop_of_length_le (by omega)]
    rfl
  · rw [ext_bs]
    congr 1
    rw [List.extract_eq_take_drop]
    simp [h2]
/-- What is ahead goes. -/
theorem trim_any (N P r : ByteArray) (m n : Nat) (hN : N.size = n) (hP : P.size = m) (hm : m ≤ n) (hE : N.extract 0 m = P) (hB : N.extract m n = r) (w : World) :
    Calls Tryz.prog 77 #[.string N, .string P] w fun e w' => e = .returned (.string r) ∧ w' = w := by
  have hn' : (N.size : Int) = (n : Int) := by rw [hN]
  have hm' : (P.size : Int) = (m : Int) := by rw [hP]
  have c1 : (m : Int) ≤ (n : Int) := by omega
  have c2 : decide ((m : Int) ≤ (n : Int)) = true := decide_eq_true c1
  have b0 : (0 : Int) ≤ (m : Int) := by omega
  have q : ((N.extract 0 m).toList == P.toList) = true := by rw [hE]; simp
  have H1 : Hid (Calls Tryz.prog 160 #[.string N, .string P] w fun e w' => e = .returned (.bool true) ∧ w' = w) := hideIt (by
    go_enter Tryz.func160, Tryz.ntmps160
    go_wp2
    go_ret
    exact ⟨rfl, rfl⟩)
  clear q hE
  subst hB
  have H2 : Hid (Calls Tryz.prog 121 #[.string N, .string P] w fun e w' => e = .returned (.string (N.extract m n)) ∧ w' = w) := hideIt (by
    go_enter Tryz.func121, Tryz.ntmps121
    go_wp2_with (first | (go_at_call 160; refine H1.out.mono ?_; rintro e wx ⟨rfl, hwx⟩; obtain rfl := hwx.symm))
    go_ret
    exact ⟨rfl, rfl⟩)
  clear H1
  go_enter Tryz.func77, Tryz.ntmps77
  go_wp2_with (first | (go_at_call 121; refine H2.out.mono ?_; rintro e wx ⟨rfl, hwx⟩; obtain rfl := hwx.symm))
  go_ret
  exact ⟨rfl, rfl⟩
theorem filter_no {l : List UInt8} (h : (47 : UInt8) ∉ l) : l.filter (fun x => decide (x ≠ 47)) = l := List.filter_eq_self.2 fun _ hx => decide_eq_true fun e => h (e ▸ hx)
theorem replace_rm : ∀ (n : Nat) (s : List UInt8), s.length ≤ n → Lib.replaceK [47] [] (Lib.count s [47]) s = s.filter (fun x => decide (x ≠ 47)) := by
  intro n
  induction n with
  | zero =>
    intro s h
    have : s = [] := List.eq_nil_of_length_eq_zero (by omega)
    subst this
    rfl
  | succ n ih =>
    intro s h
    rcases Ob.cut_at 47 s with h0 | ⟨a, r, rfl, ha⟩
    · rw [Lib.count_miss (Ob.index_none 47 s h0), Lib.replaceK, filter_no h0]
    · have hi := Ob.index_some 47 a r ha
      rw [Lib.count_hit (by simp) hi, Nat.add_comm, Lib.replaceK_hit _ _ _ _ _ hi]
      have hd : (a ++ 47 :: r).drop (a.length + ([47] : List UInt8).length) = r := by
        rw [List.drop_append]
        simp
      have ht : (a ++ 47 :: r).take a.length = a := by simp
      rw [hd, ht, ih r (by simp at h; omega), List.filter_append, filter_no ha, List.filter_cons]
      simp
theorem replaceAll_rm (s : List UInt8) : Lib.replaceAll s [47] [] = s.filter (fun x => decide (x ≠ 47)) := by
  have h : (([47] : List UInt8) == []) = false := rfl
  rw [Lib.replaceAll, Lib.replace, h]
  simp only [Bool.false_eq_true, if_false]
  rw [show Lib.replaceNum s [47] (-1) = Lib.count s [47] by rw [Lib.replaceNum, if_pos (.inl (by decide))]]
  exact replace_rm _ s (Nat.le_refl _)
/-- The digits of a path. -/
theorem digits_of (id : List UInt8) : Lib.replaceAll (47 :: Cb.Cd.hexL (id.take 1) ++ 47 :: Cb.Cd.hexL (id.drop 1)) [47] [] = Cb.Cd.hexL id := by
  rw [replaceAll_rm, List.filter_append, List.filter_cons, List.filter_cons, filter_no (hex_all _).2.1, filter_no (hex_all _).2.1]
  simp only [ne_eq, not_true_eq_false, decide_false, Bool.false_eq_true, if_false]
  rw [← Cb.Cd.hexL_append, List.take_append_drop]
set_option maxHeartbeats 800000 in
set_option maxRecDepth 100000 in
/-- A file's path says its id. -/
theorem said_any (id : List UInt8) (hl : id.length = 32) (w : World) (hm : Ob.MaxAt w) :
    Calls Tryz.prog 34 #[.string (fileP id)] w fun e w' => e = .returned (.tuple #[.string (Vc.bs id), .bool true]) ∧ Below w.heap.size w w' := by
  obtain ⟨m, hm⟩ := hm
  have h2 : (Cb.Cd.hexL (id.take 1)).length = 2 := by rw [Cb.Cd.hexL_len]; simp; omega
  have h62 : (Cb.Cd.hexL (id.drop 1)).length = 62 := by rw [Cb.Cd.hexL_len]; simp; omega
  have eF : fileP id = Vc.bs (objL ++ (47 :: Cb.Cd.hexL (id.take 1) ++ 47 :: Cb.Cd.hexL (id.drop 1))) := by
    unfold fileP fileL dirL
    simp
  obtain ⟨r, hr⟩ : ∃ r, 47 :: Cb.Cd.hexL (id.take 1) ++ 47 :: Cb.Cd.hexL (id.drop 1) = r := ⟨_, rfl⟩
  have hrl : r.length = 66 := by rw [← hr, List.length_append, List.length_cons, List.length_cons, h2, h62]
  have hol : objL.length = 7 := rfl
  have HT := hideIt (trim_any (fileP id) ⟨#[111, 98, 106, 101, 99, 116, 115]⟩ (Vc.bs r) 7 73 (fileP_size hl) rfl (by decide) (by rw [eF, hr, ext_bs]; show _ = Vc.bs objL; congr 1) (by rw [eF, hr, ext_bs]; congr 1; rw [List.extract_eq_take_drop, List.drop_left' hol]; exact List.take_of_length_le (by omega)) w)
  have HR : Hid (Calls Tryz.prog 76 #[.string (Vc.bs r), .string ⟨#[47]⟩, .string ⟨#[]⟩] w fun e w' => e = .returned (.string (Vc.bs (Cb.Cd.hexL id))) ∧ Below w.heap.size w w') := hideIt (by
    have := Tryz.strings_ReplaceAll (Vc.bs r) ⟨#[47]⟩ ⟨#[]⟩ m w (by rw [Vc.bs_size, hrl]; decide) hm (by decide) (by rw [Vc.bs_size, hrl]; show 66 + _ * 0 ≤ _; omega)
    rw [Vc.bs_list, show (⟨#[47]⟩ : ByteArray).data.toList = [47] from rfl, show (⟨#[]⟩ : ByteArray).data.toList = [] from rfl, ← hr, digits_of id] at this
    rw [← hr]
    exact this)
  have HU : Hid (∀ X, Calls Tryz.prog 78 #[.string (Vc.bs (Cb.Cd.hexL id))] X fun e w' => e = .returned (.tuple #[.string (Vc.bs id), .int .i64 0]) ∧ Below X.heap.size X w') := hideIt (fun X => by
    have := Cb.unhex_any (Vc.bs (Cb.Cd.hexL id)) X (by rw [Vc.bs_size, Cb.Cd.hexL_len]; omega)
    rw [Vc.bs_list, Cb.Cd.unhex_hex] at this
    exact this)
  have HPA := hideIt (fun X => path_any id hl X)
  clear hm hr hrl eF hol h2 h62 hl
  generalize fileP id = P at HT HPA ⊢
  generalize Vc.bs (Cb.Cd.hexL id) = D at HR HU
  generalize Vc.bs r = R at HT HR
  generalize Vc.bs id = I at HU HPA ⊢
  have q : (P.toList == P.toList) = true := by simp
  go_enter Tryz.func34, Tryz.ntmps34
  go_wp2_with (first | (go_at_call 77; refine HT.out.mono ?_; rintro e wx ⟨rfl, hwx⟩; obtain rfl := hwx.symm) | (go_at_call 76; refine HR.out.mono ?_; rintro e w1 ⟨rfl, hb1⟩) | (go_at_call 78; refine (HU.out _).mono ?_; rintro e w2 ⟨rfl, hb2⟩) | (go_at_call 17; refine (HPA.out _).mono ?_; rintro e w3 ⟨rfl, hb3⟩))
  go_ret2
  exact ⟨rfl, Ob.below2 (Ob.below2 hb1 hb2) hb3⟩
end Go.Proofs.YtbmhhlkjgnijgaaGreatDoor.Lo
namespace Go.Proofs.YtbmhhlkjgnijgaaGreatDoor.Lo
open Vc Go.RowKit Go.Shelf Go.Maps Go.Sort
section
variable {n0 : Nat} {A : Nat → Prop} {b : Nat} {w w' : World} {fb : Nat} {S : Fs} {K : List (List UInt8)} {ss : List (List UInt8)}
theorem obj_no_nil : dirOf objP ≠ objP := by rw [dir_obj]; intro e; have := congrArg ByteArray.size e; rw [objP_size] at this; cases this
/-- Names: objects are kept under these ids, something may be coming in, nothing else is there but folders. -/
structure Kl (n : Nm) (K : List (List UInt8)) : Prop where
  len : ∀ id ∈ K, id.length = 32
  nd : K.Nodup
  obj : n objP = some Option.none
  inc : n incP ≠ some Option.none
  dir : ∀ id ∈ K, n (dirP id) = some Option.none
  dirs : ∀ id : List UInt8, id.length = 32 → n (dirP id) = Option.none ∨ n (dirP id) = some Option.none
  file : ∀ id ∈ K, ∃ x, n (fileP id) = some (some x)
  only : ∀ q, n q ≠ Option.none → q = objP ∨ q = incP ∨ (∃ id : List UInt8, id.length = 32 ∧ q = dirP id) ∨ ∃ id ∈ K, q = fileP id
theorem Kp.names (h : Kp S K) : Kl S.now K := ⟨h.len, h.nd, h.obj, by rw [h.inc]; simp, h.dir, fun id hl => (h.dirs id hl).1, fun id hi => by
  obtain ⟨x, _, _, h2, _⟩ := h.file id hi
  exact ⟨x, h2⟩, fun q hq => by
  rcases h.only q hq with e | e | e
  · exact .inl e
  · exact .inr (.inr (.inl e))
  · exact .inr (.inr (.inr e))⟩
/-- What stands in the folder of all is folders, or what is coming in. -/
theorem Kl.folders {n : Nm} (h : Kl n K) (hN : NamesIn n objP ss) : ∀ s ∈ ss, s = incL ∨ ∃ id : List UInt8, id.length = 32 ∧ s = dirL id ∧ n (dirP id) = some Option.none := fun s hs => by
  obtain ⟨h1, h2⟩ := (hN.1 s).1 hs
  have h3 : n (Vc.bs s) ≠ Option.none := fun e => by rw [e] at h1; cases h1
  rcases h.only _ h3 with e | e | ⟨id, hl, e⟩ | ⟨id, hi, e⟩
  · rw [e] at h2; exact absurd h2 obj_no_nil
  · exact .inl (bsL_inj e)
  · refine .inr ⟨id, hl, bsL_inj e, ?_⟩
    rw [e] at h3
    exact (h.dirs id hl).resolve_left h3
  · rw [e, dir_file] at h2
    exact absurd h2.symm (obj_ne_dir (h.len id hi))
/-- All folders, each once, rising. -/
def Fold (n : Nm) (fs : List (List UInt8)) : Prop := fs.Nodup ∧ (∀ s ∈ fs, ∃ id : List UInt8, id.length = 32 ∧ s = dirL id ∧ n (dirP id) = some Option.none) ∧ (∀ id : List UInt8, id.length = 32 → n (dirP id) = some Option.none → dirL id ∈ fs) ∧ fs.Pairwise fun x y => x < y
theorem up_of {ss : List (List UInt8)} (h : ss.Nodup) (h2 : ss.Pairwise fun x y => x ≤ y) : ss.Pairwise fun x y => x < y := by
  refine (h.and h2).imp fun {x y} ⟨q1, q2⟩ => ?_
  by_cases e : x < y
  · exact e
  · exact absurd (List.le_antisymm q2 (List.not_lt.1 e)) q1
def notInc (s : List UInt8) : Bool := decide (s ≠ incL)
theorem inc_not_dir {id : List UInt8} (hl : id.length = 32) : dirL id ≠ incL := fun e => inc_ne_dir hl (by unfold dirP incP; rw [e])
theorem Kl.fold {n : Nm} (h : Kl n K) (hN : NamesIn n objP ss) : Fold n (ss.filter notInc) := by
  refine ⟨hN.2.1.filter _, fun s hs => ?_, fun id hl hd => List.mem_filter.2 ⟨?_, decide_eq_true (inc_not_dir hl)⟩, (up_of hN.2.1 hN.2.2).filter _⟩
  · obtain ⟨h1, h2⟩ := List.mem_filter.1 hs
    exact (h.folders hN s h1).resolve_left (of_decide_eq_true h2)
  · have e : Vc.bs (dirL id) = dirP id := rfl
    rw [hN.1, e, dir_dir, hd]
    exact ⟨rfl, rfl⟩
theorem name_inc : nameB false incP = Vc.bs [105, 110, 99, 111, 109, 105, 110, 103] := by
  unfold nameB
  rw [if_neg (by decide), incP, incL, tail_of _ _ (by decide)]
theorem slsuf_inc (w : World) : Calls Tryz.prog 152 #[.string ⟨#[105, 110, 99, 111, 109, 105, 110, 103]⟩, .string ⟨#[47]⟩] w fun e w' => e = .returned (.bool false) ∧ w' = w := by
  have q : (((⟨#[105, 110, 99, 111, 109, 105, 110, 103]⟩ : ByteArray).extract 7 8).toList == [47]) = false := by decide +kernel
  go_enter Tryz.func152, Tryz.ntmps152
  go_wp2
  go_ret
  exact ⟨rfl, rfl⟩
theorem cut_inc (w : World) : Calls Tryz.prog 71 #[.string (nameB false incP), .string ⟨#[47]⟩] w fun e w' => e = .returned (.tuple #[.string (nameB false incP), .bool false]) ∧ w' = w := by
  rw [name_inc]
  have H1 := hideIt (slsuf_inc w)
  have H2 : Hid (Calls Tryz.prog 117 #[.string (Vc.bs [105, 110, 99, 111, 109, 105, 110, 103]), .string ⟨#[47]⟩] w fun e w' => e = .returned (.tuple #[.string (Vc.bs [105, 110, 99, 111, 109, 105, 110, 103]), .bool false]) ∧ w' = w) := hideIt (by
    show Calls _ _ #[.string ⟨#[105, 110, 99, 111, 109, 105, 110, 103]⟩, .string ⟨#[47]⟩] _ fun e w' => e = .returned (.tuple #[.string ⟨#[105, 110, 99, 111, 109, 105, 110, 103]⟩, .bool false]) ∧ w' = w
    go_enter Tryz.func117, Tryz.ntmps117
    go_wp2_with (first | (go_at_call 152; refine H1.out.mono ?_; rintro e wx ⟨rfl, hwx⟩; obtain rfl := hwx.symm))
    go_ret2
    exact ⟨rfl, rfl⟩)
  generalize Vc.bs [105, 110, 99, 111, 109, 105, 110, 103] = N at H2 ⊢
  go_enter Tryz.func71, Tryz.ntmps71
  go_wp2_with (first | (go_at_call 117; refine H2.out.mono ?_; rintro e wx ⟨rfl, hwx⟩; obtain rfl := hwx.symm))
  go_ret2
  exact ⟨rfl, rfl⟩
/-- The name of what stands in the folder of all. -/
def nm1 (s : List UInt8) : ByteArray := nameB (notInc s) (Vc.bs s)
set_option maxHeartbeats 1600000 in
set_option maxRecDepth 100000 in
theorem folders_any (h : St P0 n0 A b w fb S) (hK : Kl S.now K) (hb : b < 900) :
    Calls Tryz.prog 32 #[.pointer (some ⟨fb, 0, none⟩)] w fun e w' => Kept [] w w' ∧ ∃ (v : Value) (fs : List (List UInt8)), Fold S.now fs ∧ fs.length ≤ 900000 ∧ e = .returned (.tuple #[v, .int .i64 0]) ∧ w'.ownsRow w.heap.size 9 1 v fs.length (fs.map encStr) := by
  have e0 : S.nfE objP = 0 := nf_of objP_path hK.obj
  have HLI : Hid (Calls Tryz.prog 33 #[.pointer (some ⟨fb, 0, none⟩), .string ⟨#[111, 98, 106, 101, 99, 116, 115]⟩] w fun e w' => Kept [] w w' ∧ ∃ (a : Option Addr) (c : Nat) (ss : List (List UInt8)), NamesIn S.now objP ss ∧ ss.length ≤ 900000 ∧ e = .returned (.tuple #[.slice a ss.length c, .int .i64 0]) ∧ StrRow w.heap.size w' a (ss.map nm1)) := hideIt ((list_rep h.rep hb (calm_nil _ _) objP (by rw [objP_size]; decide)).mono fun e w' ⟨hk, hr⟩ => by
    rcases hr with ⟨h0, _⟩ | ⟨_, a, c, ss, h1, h2, _, h3, h4⟩
    · exact absurd e0 h0
    · refine ⟨hk, a, c, ss, h1, h2, h3, ?_⟩
      have : ss.map nm1 = ss.map fun s => nameB (isDir S.now (Vc.bs s)) (Vc.bs s) := List.map_congr_left fun s hs => by
        unfold nm1
        rcases hK.folders h1 s hs with rfl | ⟨id, hl, rfl, hd⟩
        · rw [show Vc.bs incL = incP from rfl, isDir_not (by decide) hK.inc]
          rfl
        · rw [show Vc.bs (dirL id) = dirP id from rfl, isDir_of hd, notInc, decide_eq_true (inc_not_dir hl)]
      rw [this]
      exact h4)
  have HKF := hideIt (fun ss (hN : NamesIn S.now objP ss) => hK.folders hN)
  have HFD := hideIt (fun ss (hN : NamesIn S.now objP ss) => hK.fold hN)
  obtain ⟨i0, hi0, hz0, hz1, hz2⟩ := info_parts infoStr
  clear h hK e0
  go_enter Tryz.func32, Tryz.ntmps32
  go_wp2_with (first | (go_at_call 33; refine HLI.out.mono ?_; rintro e w1 ⟨hk1, a, c, ss, hN, hsl, rfl, hrow⟩))
  obtain ⟨m, hm⟩ : ∃ m, ss.length = m := ⟨_, rfl⟩
  have HN := hideIt (HFD.out ss hN)
  have HKS := hideIt (HKF.out ss hN)
  have HROW := hideIt hrow
  have HK1 := hideIt hk1
  have HSZ : Hid (w.heap.size ≤ w1.heap.size) := hideIt hk1.size
  rw [hm] at hsl ⊢
  have HM := hideIt hm
  have mI : (m : Int) ≤ 900000 := by omega
  clear HKF HFD HLI hN hrow hk1 hm
  go_loopw [6, 21] (fun v t wr => ∃ i : Nat, i ≤ m ∧ t = .int .i64 i ∧ wr.ownsRow w1.heap.size 9 1 v ((ss.take i).filter notInc).length (((ss.take i).filter notInc).map encStr) ∧ Kept [] w1 wr) (fun _ t _ => m - (intOf t).toNat)
  case atStart => exact ⟨0, by omega, rfl, ⟨rfl, .inl ⟨rfl, rfl⟩⟩, Kept.refl _ _⟩
  case round =>
    obtain ⟨i, hi, rfl, hown, hkr⟩ := hrel
    by_cases hlm : i < m
    · have hie : decide ((i : Int) < (m : Int)) = true := decide_eq_true (by omega)
      have i1 : (i : Int) < (m : Int) := by omega
      have hil : i < ss.length := by rw [HM.out]; exact hlm
      obtain ⟨z, hz⟩ : ∃ z, ss[i]? = some z := ⟨_, List.getElem?_eq_getElem hil⟩
      have HKR := hideIt hkr
      have HO := hideIt hown
      have hlen : ((ss.take i).filter notInc).length ≤ 900000 := by
        have h1 := List.length_filter_le notInc (ss.take i)
        have h2 := List.length_take_le i ss
        omega
      have hB : w1.heap.size ≤ wr.heap.size := hkr.size
      obtain ⟨g, cur, rfl, hBg, hg, hcm, hcell⟩ := HROW.out (by rw [List.length_map]; omega)
      have hsi := hcell i (nm1 z) (by rw [List.getElem?_map, hz]; rfl)
      have hg2 := hkr.fs hg (by simp)
      have x0 := cell_in hg2 hsi
      have x0f := thawAt hg2 i
      have HT : Hid ((ss.take (i + 1)).filter notInc = (ss.take i).filter notInc ++ [z].filter notInc) := hideIt (by rw [List.take_add_one, hz, List.filter_append]; rfl)
      clear hsi hcell hg hg2 hown hkr hil
      rcases HKS.out z (List.mem_of_getElem? hz) with rfl | ⟨id, hid, rfl, _⟩
      · have HCU := hideIt (fun X => cut_inc X)
        have e1 : nm1 incL = nameB false incP := rfl
        have e2 : [incL].filter notInc = [] := rfl
        rw [e1] at x0
        rw [e2, List.append_nil] at HT
        generalize nameB false incP = N at HCU x0
        clear hz e1 e2
        go_wp2_with (first | (go_at_call 71; refine (HCU.out _).mono ?_; rintro e wx ⟨rfl, hwx⟩; obtain rfl := hwx.symm))
        go_roundw
        case rel => exact ⟨i + 1, by omega, by go_num, by rw [HT.out]; exact HO.out, HKR.out⟩
        case measure => simp [intOf]; omega
      · have HCU := hideIt (fun X => cut_dir id hid X)
        have e0 : notInc (dirL id) = true := decide_eq_true (inc_not_dir hid)
        have e1 : nm1 (dirL id) = nameB true (dirP id) := by unfold nm1; rw [e0]; rfl
        have e2 : [dirL id].filter notInc = [dirL id] := by rw [List.filter_cons, e0]; rfl
        rw [e1] at x0
        rw [e2] at HT
        have HEN : Hid (encStr (dirL id) = .string (dirP id)) := hideIt rfl
        have HD : Hid (⟨#[111, 98, 106, 101, 99, 116, 115, 47]⟩ ++ Vc.bs (Cb.Cd.hexL (id.take 1)) = dirP id) := hideIt (by
          show Vc.bs [111, 98, 106, 101, 99, 116, 115, 47] ++ _ = Vc.bs _
          rw [cat_bs]
          rfl)
        have hd2 : (Vc.bs (Cb.Cd.hexL (id.take 1))).size = 2 := by rw [Vc.bs_size, Cb.Cd.hexL_len]; simp; omega
        generalize nameB true (dirP id) = N at HCU x0
        generalize dirP id = D at HEN HD
        generalize Vc.bs (Cb.Cd.hexL (id.take 1)) = R at HCU HD hd2
        obtain rfl := HD.out
        clear hz hid HD e0 e1 e2
        go_wp2_with (first | (go_at_call 71; refine (HCU.out _).mono ?_; rintro e wx ⟨rfl, hwx⟩; obtain rfl := hwx.symm) | (at_builtin; refine wpList_append_own _ rfl _ _ 22 rfl w1.heap.size 9 i0 (.string ⟨#[]⟩) 1 16 Tryz.underlying22 hi0 hz0 hz1 hz2 rfl (by decide) _ _ _ rfl (HO.out.alloc _) ⟨wr.heap.size, 0, none⟩ 1 1 [.string _] rfl rfl (cell_one_new _ _ _) (fun x hx => by simp at hx; subst hx; rfl) (by unfold maxLen; omega) (by omega) (by simp; omega) ?_; intro v3 w3 hown3 hg3 hnil3))
        go_roundw
        case rel =>
          refine ⟨i + 1, by omega, by go_num, ?_, ?_⟩
          · rw [HT.out, List.length_append, List.map_append, List.map_cons, List.map_nil, HEN.out]
            exact hown3
          · refine ((HKR.out.trans (Kept.alloc _ _)).trans (Kept.of_grown hg3)).fresh (fun a ha => ?_)
            simp at ha
            have := Vc.row_ge HO.out a ha
            exact .inr (by omega)
        case measure => simp [intOf]; omega
    · have hie : decide ((i : Int) < (m : Int)) = false := decide_eq_false (by omega)
      obtain rfl : i = m := by omega
      have HO := hideIt hown
      have HKR := hideIt hkr
      clear hown hkr
      go_wp2
      go_ret2
      refine ⟨(HK1.out.trans HKR.out).sub (by simp), _, _, HN.out, by have := List.length_filter_le notInc ss; have := HM.out; omega, rfl, ?_⟩
      have e1 : ss.take i = ss := List.take_of_length_le (by rw [HM.out]; exact Nat.le_refl _)
      have ho := HO.out
      rw [e1] at ho
      refine ⟨ho.1, ?_⟩
      rcases ho.2 with h1 | ⟨g, cap, cur, h1, h2, h3⟩
      · exact .inl h1
      · exact .inr ⟨g, cap, cur, h1, by have := HSZ.out; omega, h3⟩
end
end Go.Proofs.YtbmhhlkjgnijgaaGreatDoor.Lo
namespace Go.Proofs.YtbmhhlkjgnijgaaGreatDoor.Lo
open Vc Go.RowKit Go.Shelf Go.Maps Go.Sort
theorem dig_lt : ∀ a, a < 16 → ∀ b, b < 16 → a < b → Cb.Cd.dig a < Cb.Cd.dig b := by decide
theorem u8_lt (a b : UInt8) : a < b ↔ a.toNat < b.toNat := UInt8.lt_iff_toNat_lt
theorem u8_cases (a b : UInt8) : a < b ∨ a = b ∨ b < a := by
  rw [u8_lt, u8_lt, ← UInt8.toNat_inj]
  omega
theorem hex_cons (c : UInt8) (t : List UInt8) : Cb.Cd.hexL (c :: t) = Cb.Cd.dig (c.toNat / 16) :: Cb.Cd.dig (c.toNat % 16) :: Cb.Cd.hexL t := rfl
theorem hex_mono : ∀ a b : List UInt8, a.length = b.length → a < b → Cb.Cd.hexL a < Cb.Cd.hexL b
  | [], [], _, h => absurd h (by decide)
  | x :: s, y :: t, hl, h => by
    rw [hex_cons, hex_cons]
    rcases List.cons_lt_cons_iff.1 h with h1 | ⟨rfl, h1⟩
    · rw [u8_lt] at h1
      have hx : x.toNat < 256 := x.toNat_lt
      have hy : y.toNat < 256 := y.toNat_lt
      by_cases e : x.toNat / 16 = y.toNat / 16
      · rw [e]
        exact List.cons_lt_cons_iff.2 (.inr ⟨rfl, List.cons_lt_cons_iff.2 (.inl (dig_lt _ (by omega) _ (by omega) (by omega)))⟩)
      · exact List.cons_lt_cons_iff.2 (.inl (dig_lt _ (by omega) _ (by omega) (by omega)))
    · exact List.cons_lt_cons_iff.2 (.inr ⟨rfl, List.cons_lt_cons_iff.2 (.inr ⟨rfl, hex_mono s t (by simpa using hl) h1⟩)⟩)
theorem lt_app : ∀ (p a b : List UInt8), a < b → p ++ a < p ++ b
  | [], _, _, h => h
  | _ :: p, a, b, h => List.cons_lt_cons_iff.2 (.inr ⟨rfl, lt_app p a b h⟩)
theorem app_lt : ∀ (p q a b : List UInt8), p.length = q.length → p < q → p ++ a < q ++ b
  | [], [], _, _, _, h => absurd h (by decide)
  | x :: p, y :: q, a, b, hl, h => by
    rcases List.cons_lt_cons_iff.1 h with h1 | ⟨rfl, h1⟩
    · exact List.cons_lt_cons_iff.2 (.inl h1)
    · exact List.cons_lt_cons_iff.2 (.inr ⟨rfl, app_lt p q a b (by simpa using hl) h1⟩)
theorem lt_total (a b : List UInt8) (h1 : ¬ a < b) (h2 : a ≠ b) : b < a := by
  by_cases h : b < a
  · exact h
  · exact absurd (List.le_antisymm (List.not_lt.1 h) (List.not_lt.1 h1)) h2
theorem lt_irr (a : List UInt8) : ¬ a < a := List.lt_irrefl a
/-- Paths rise as ids do. -/
theorem file_mono {a b : List UInt8} (ha : a.length = 32) (hb : b.length = 32) (h : a < b) : fileL a < fileL b := by
  have e : ∀ l : List UInt8, fileL l = (objL ++ [47]) ++ (Cb.Cd.hexL (l.take 1) ++ 47 :: Cb.Cd.hexL (l.drop 1)) := fun l => by unfold fileL dirL; simp
  rw [e, e]
  refine lt_app _ _ _ ?_
  match a, b, ha, hb, h with
  | x :: s, y :: t, ha, hb, h =>
    simp only [List.take_succ_cons, List.take_zero, List.drop_succ_cons, List.drop_zero]
    rcases List.cons_lt_cons_iff.1 h with h1 | ⟨rfl, h1⟩
    · refine app_lt _ _ _ _ (by rw [Cb.Cd.hexL_len, Cb.Cd.hexL_len]; rfl) (hex_mono [x] [y] rfl (List.cons_lt_cons_iff.2 (.inl h1)))
    · refine lt_app _ _ _ (List.cons_lt_cons_iff.2 (.inr ⟨rfl, hex_mono s t ?_ h1⟩))
      simp at ha hb
      omega
theorem file_lt_iff {a b : List UInt8} (ha : a.length = 32) (hb : b.length = 32) : fileL a < fileL b ↔ a < b := by
  refine ⟨fun h => ?_, file_mono ha hb⟩
  by_cases h1 : a < b
  · exact h1
  · by_cases h2 : a = b
    · rw [h2] at h; exact absurd h (lt_irr _)
    · exact absurd (List.lt_trans h (file_mono hb ha (lt_total a b h1 h2))) (lt_irr _)
end Go.Proofs.YtbmhhlkjgnijgaaGreatDoor.Lo
namespace Go.Proofs.YtbmhhlkjgnijgaaGreatDoor.Lo
open Vc Go.RowKit Go.Shelf Go.Maps Go.Sort
/-- Of those kept, just such ones, each once, rising. -/
def Got (K : List (List UInt8)) (P : List UInt8 → Prop) (L : List (List UInt8)) : Prop := L.Nodup ∧ (∀ id, id ∈ L ↔ id ∈ K ∧ P id) ∧ L.Pairwise fun x y => fileL x < fileL y
theorem take_lt {α : Type} {R : α → α → Prop} {l : List α} (h : l.Pairwise R) {i : Nat} {z x : α} (hz : l[i]? = some z) (hx : x ∈ l.take i) : R x z := by
  rw [← List.take_append_drop i l] at h
  exact (List.pairwise_append.1 h).2.2 x hx z (List.mem_of_getElem? (i := 0) (by rw [List.getElem?_drop]; simpa using hz))
theorem not_take {α : Type} {l : List α} (h : l.Nodup) {i : Nat} {z : α} (hz : l[i]? = some z) : z ∉ l.take i := fun hm => by
  obtain ⟨k, hk⟩ := List.mem_iff_getElem?.1 hm
  rw [List.getElem?_take] at hk
  split at hk
  · have hlt : k < l.length := (List.getElem?_eq_some_iff.1 hk).1
    have := (List.getElem?_inj hlt h).1 (hk.trans hz.symm)
    omega
  · cases hk
theorem mem_take_one {α : Type} {l : List α} {i : Nat} {z : α} (hz : l[i]? = some z) (x : α) : x ∈ l.take (i + 1) ↔ x ∈ l.take i ∨ x = z := by
  rw [List.take_add_one, hz, List.mem_append]
  simp
theorem dirL_iff (a b : List UInt8) : dirP a = dirP b ↔ dirL a = dirL b := ⟨fun h => bsL_inj h, fun h => by unfold dirP; rw [h]⟩
section
variable {n : Nm} {K ss ts : List (List UInt8)} {id0 : List UInt8}
/-- What stands in an id's folder is files of those kept. -/
theorem Kl.files (h : Kl n K) (hl0 : id0.length = 32) (hN : NamesIn n (dirP id0) ts) : ∀ t ∈ ts, ∃ id ∈ K, t = fileL id ∧ dirP id = dirP id0 ∧ isDir n (fileP id) = false := fun t ht => by
  obtain ⟨h1, h2⟩ := (hN.1 t).1 ht
  have h3 : n (Vc.bs t) ≠ Option.none := fun e => by rw [e] at h1; cases h1
  rcases h.only _ h3 with e | e | ⟨id, hl, e⟩ | ⟨id, hi, e⟩
  · rw [e, dir_obj] at h2
    have := congrArg ByteArray.size h2
    rw [dirP_size hl0] at this
    cases this
  · rw [e, dir_inc] at h2
    exact absurd h2 (obj_ne_dir hl0)
  · rw [e, dir_dir] at h2
    exact absurd h2 (obj_ne_dir hl0)
  · rw [e, dir_file] at h2
    refine ⟨id, hi, bsL_inj e, h2, ?_⟩
    obtain ⟨x, h4⟩ := h.file id hi
    exact isDir_not (ne_nil_of (by rw [file_len (h.len id hi)]; decide)) (by rw [h4]; simp)
theorem Kl.in_file (h : Kl n K) (hN : NamesIn n (dirP id0) ts) {id : List UInt8} (hi : id ∈ K) : fileL id ∈ ts ↔ dirL id = dirL id0 := by
  obtain ⟨x, h4⟩ := h.file id hi
  have e : Vc.bs (fileL id) = fileP id := rfl
  rw [hN.1, e, dir_file, h4, dirL_iff]
  simp
theorem Kl.in_dir (h : Kl n K) (hN : Fold n ss) {id : List UInt8} (hi : id ∈ K) : dirL id ∈ ss := hN.2.2.1 id (h.len id hi) (h.dir id hi)
theorem got_len {P : List UInt8 → Prop} {L : List (List UInt8)} (h : Got K P L) : L.length ≤ K.length := h.1.length_le_of_subset fun id hi => ((h.2.1 id).1 hi).1
theorem got_nil (K : List (List UInt8)) (ss : List (List UInt8)) : Got K (fun id => dirL id ∈ ss.take 0) [] := ⟨List.nodup_nil, fun id => by simp, List.Pairwise.nil⟩
theorem got_in {P : List UInt8 → Prop} {L : List (List UInt8)} (h : Got K P L) (ts : List (List UInt8)) : Got K (fun id => P id ∨ fileL id ∈ ts.take 0) L := ⟨h.1, fun id => by rw [h.2.1]; simp, h.2.2⟩
theorem got_one {L : List (List UInt8)} {i j : Nat} {jd : List UInt8} (hS : ss.Pairwise fun x y => x < y) (hT : ts.Nodup) (hT2 : ts.Pairwise fun x y => x < y) (h : Got K (fun id => dirL id ∈ ss.take i ∨ fileL id ∈ ts.take j) L) (hlen : ∀ id ∈ K, id.length = 32) (hi : ss[i]? = some (dirL jd)) (hj : ts[j]? = some (fileL jd)) (hk : jd ∈ K) : Got K (fun id => dirL id ∈ ss.take i ∨ fileL id ∈ ts.take (j + 1)) (L ++ [jd]) := by
  have hS1 : ss.Nodup := hS.imp fun {x y} q => by
    intro e
    rw [e] at q
    exact lt_irr y q
  refine ⟨List.nodup_append.2 ⟨h.1, by simp, fun a ha c hc => ?_⟩, fun id => ?_, List.pairwise_append.2 ⟨h.2.2, by simp, fun a ha c hc => ?_⟩⟩
  · simp at hc
    subst hc
    intro e
    subst e
    rcases ((h.2.1 a).1 ha).2 with q | q
    · exact not_take hS1 hi q
    · exact not_take hT hj q
  · rw [List.mem_append, h.2.1, List.mem_singleton]
    show (id ∈ K ∧ (dirL id ∈ ss.take i ∨ fileL id ∈ ts.take j)) ∨ id = jd ↔ id ∈ K ∧ (dirL id ∈ ss.take i ∨ fileL id ∈ ts.take (j + 1))
    rw [mem_take_one hj]
    constructor
    · rintro (⟨q1, q2⟩ | rfl)
      · exact ⟨q1, q2.elim .inl (fun q => .inr (.inl q))⟩
      · exact ⟨hk, .inr (.inr rfl)⟩
    · rintro ⟨q1, q2 | q2 | q2⟩
      · exact .inl ⟨q1, .inl q2⟩
      · exact .inl ⟨q1, .inr q2⟩
      · exact .inr (file_inj (hlen id q1) (hlen jd hk) (by unfold fileP; rw [q2]))
  · simp at hc
    subst hc
    obtain ⟨q1, q2⟩ := (h.2.1 a).1 ha
    rcases q2 with q | q
    · have h1 := take_lt hS hi q
      exact app_lt _ _ _ _ (by rw [dir_len (hlen a q1), dir_len (hlen c hk)]) h1
    · exact take_lt hT2 hj q
theorem got_all {L : List (List UInt8)} {i j : Nat} (h : Kl n K) (hN : NamesIn n (dirP id0) ts) (hG : Got K (fun id => dirL id ∈ ss.take i ∨ fileL id ∈ ts.take j) L) (hi : ss[i]? = some (dirL id0)) (hj : ts.length ≤ j) : Got K (fun id => dirL id ∈ ss.take (i + 1)) L := by
  refine ⟨hG.1, fun id => ?_, hG.2.2⟩
  rw [hG.2.1, List.take_of_length_le hj]
  show id ∈ K ∧ (dirL id ∈ ss.take i ∨ fileL id ∈ ts) ↔ id ∈ K ∧ dirL id ∈ ss.take (i + 1)
  rw [mem_take_one hi]
  exact and_congr_right fun hk => or_congr_right (h.in_file hN hk)
theorem got_end {L : List (List UInt8)} {i : Nat} (h : Kl n K) (hN : Fold n ss) (hG : Got K (fun id => dirL id ∈ ss.take i) L) (hi : ss.length ≤ i) : L.Perm K ∧ L.Pairwise fun x y => x < y := by
  refine ⟨(List.perm_ext_iff_of_nodup hG.1 h.nd).2 fun id => ?_, hG.2.2.imp_of_mem fun {x y} hx hy q => (file_lt_iff (h.len x ((hG.2.1 x).1 hx).1) (h.len y ((hG.2.1 y).1 hy).1)).1 q⟩
  rw [hG.2.1, List.take_of_length_le hi]
  exact ⟨fun q => q.1, fun q => ⟨q, h.in_dir hN q⟩⟩
end
end Go.Proofs.YtbmhhlkjgnijgaaGreatDoor.Lo
namespace Go.Proofs.YtbmhhlkjgnijgaaGreatDoor.Lo
open Vc Go.RowKit Go.Shelf Go.Maps Go.Sort
section
variable {n0 : Nat} {A : Nat → Prop} {b : Nat} {w w' : World} {fb : Nat} {S : Fs} {K : List (List UInt8)}
set_option maxHeartbeats 3200000 in
set_option maxRecDepth 100000 in
theorem list_any (h : St P0 n0 A b w fb S) (hK : Kl S.now K) (hb : b < 900) (hKl : K.length ≤ 1000) :
    Calls Tryz.prog 13 #[.pointer (some ⟨fb, 0, none⟩)] w fun e w' => Kept [] w w' ∧ ∃ (v : Value) (L : List (List UInt8)), L.Perm K ∧ (L.Pairwise fun x y => x < y) ∧ e = .returned v ∧ w'.ownsRow w.heap.size 9 1 v L.length (L.map encStr) := by
  have HFO := hideIt (folders_any h hK hb)
  have HLI : Hid (∀ X id, Kept [] w X → id.length = 32 → S.now (dirP id) = some none → Calls Tryz.prog 33 #[.pointer (some ⟨fb, 0, none⟩), .string (dirP id)] X fun e w' => Kept [] X w' ∧ ∃ (a : Option Addr) (c : Nat) (ts : List (List UInt8)), NamesIn S.now (dirP id) ts ∧ ts.length ≤ 900000 ∧ e = .returned (.tuple #[.slice a ts.length c, .int .i64 0]) ∧ StrRow X.heap.size w' a (ts.map fun t => nameB false (Vc.bs t))) := hideIt (fun X id hX hl hd => (list_rep (h.kept hX).rep hb (calm_nil _ _) (dirP id) (by rw [dirP_size hl]; decide)).mono fun e w' ⟨hk, hr⟩ => by
    have e0 : S.nfE (dirP id) = 0 := nf_of (dirP_path hl) hd
    rcases hr with ⟨h0, _⟩ | ⟨_, a, c, ts, h1, h2, _, h3, h4⟩
    · exact absurd e0 h0
    · refine ⟨hk, a, c, ts, h1, h2, h3, ?_⟩
      have : (ts.map fun t => nameB false (Vc.bs t)) = ts.map fun t => nameB (isDir S.now (Vc.bs t)) (Vc.bs t) := List.map_congr_left fun t ht => by
        obtain ⟨jd, _, rfl, _, hf⟩ := hK.files hl h1 t ht
        rw [show Vc.bs (fileL jd) = fileP jd from rfl, hf]
      rw [this]
      exact h4)
  have HSD : Hid (∀ X id, Kept [] w X → id.length = 32 → Calls Tryz.prog 34 #[.string (fileP id)] X fun e w' => e = .returned (.tuple #[.string (Vc.bs id), .bool true]) ∧ Below X.heap.size X w') := hideIt (fun X id hX hl => said_any id hl X (h.kept hX).ok.ok.max)
  have HK := hideIt hK
  obtain ⟨i0, hi0, hz0, hz1, hz2⟩ := info_parts infoStr
  clear h hK
  go_enter Tryz.func13, Tryz.ntmps13
  go_wp2_with (first | (go_at_call 32; refine HFO.out.mono ?_; rintro e w1 ⟨hk1, v, ss, hN, hsl, rfl, hown⟩; obtain ⟨a, c, rfl, hsr⟩ := SRow.of_row hown []))
  have HN := hideIt hN
  have HSR := hideIt hsr
  have HK1 := hideIt hk1
  have HSZ : Hid (w.heap.size ≤ w1.heap.size) := hideIt hk1.size
  obtain ⟨m, hm⟩ : ∃ m, ss.length = m := ⟨_, rfl⟩
  rw [hm] at hsl ⊢
  have HM := hideIt hm
  have mI : (m : Int) ≤ 900000 := by omega
  clear HFO hN hk1 hown hsr hm
  go_loopw [3, 21] (fun v t wr => ∃ (i : Nat) (L : List (List UInt8)), i ≤ m ∧ t = .int .i64 i ∧ Got K (fun id => dirL id ∈ ss.take i) L ∧ wr.ownsRow w1.heap.size 9 1 v L.length (L.map encStr) ∧ Kept [] w1 wr) (fun _ t _ => m - (intOf t).toNat)
  case atStart => exact ⟨0, [], by omega, rfl, got_nil K ss, ⟨rfl, .inl ⟨rfl, rfl⟩⟩, Kept.refl _ _⟩
  case round =>
    obtain ⟨i, L, hi, rfl, hG, hown, hkr⟩ := hrel
    by_cases hlm : i < m
    · have hie : decide ((i : Int) < (m : Int)) = true := decide_eq_true (by omega)
      have i1 : (i : Int) < (m : Int) := by omega
      have hil : i < ss.length := by rw [HM.out]; exact hlm
      obtain ⟨z, hz⟩ : ∃ z, ss[i]? = some z := ⟨_, List.getElem?_eq_getElem hil⟩
      obtain ⟨id, hid, rfl, hdn⟩ := HN.out.2.1 z (List.mem_of_getElem? hz)
      obtain ⟨g, cur, rfl, hBg, hg, hcm, _, hcell⟩ := HSR.out (by rw [HM.out]; omega)
      have hsi := hcell i (dirP id) (Nat.zero_le _) (by rw [List.getElem?_map, hz]; rfl)
      have hg2 := hkr.fs hg (by simp)
      have x0 := cell_in hg2 hsi
      have x0f := thawAt hg2 i
      have HGG := hideIt hG
      have HO := hideIt hown
      have HKR := hideIt hkr
      have HKW : Hid (Kept [] w wr) := hideIt ((HK1.out.trans hkr).sub (by simp))
      have HL1 := hideIt (HLI.out wr id HKW.out hid hdn)
      have HZ := hideIt hz
      have HID := hideIt hid
      have hds : (dirP id).size = 10 := dirP_size hid
      obtain ⟨D, hD⟩ : ∃ D, dirP id = D := ⟨_, rfl⟩
      have HD := hideIt hD
      rw [hD] at hsi x0 HL1 hds
      clear hz hsi hcell hg hg2 hown hkr hG hil hdn hid hD
      go_wp2_with (first | (go_at_call 33; refine HL1.out.mono ?_; rintro e w2 ⟨hk2, a2, c2, ts, hN2, htl, rfl, hrow2⟩))
      have hown2 : w2.ownsRow w1.heap.size 9 1 _ L.length (L.map encStr) := hk2.row HO.out (fun _ _ => by simp)
      have HK2 : Hid (Kept [] w1 w2) := hideIt ((HKR.out.trans hk2).sub (by simp))
      have HB2 : Hid (∀ g, Value.ownBlock _ = some g → g < wr.heap.size) := hideIt (fun g hg => (Vc.row_ge HO.out g hg).2)
      have HN2 := hideIt hN2
      have HR2 := hideIt hrow2
      have HS2 : Hid (wr.heap.size ≤ w2.heap.size) := hideIt hk2.size
      have HA2 : Hid (∀ g, 0 < ts.length → a2 = some ⟨g, 0, none⟩ → g < w2.heap.size) := hideIt (fun g h0 e => by
        obtain ⟨g', cur', e', _, hg', _⟩ := hrow2 (by rw [List.length_map]; exact h0)
        rw [e'] at e
        simp only [Option.some.injEq, Addr.mk.injEq] at e
        rw [← e.1]
        exact block_lt hg')
      obtain ⟨n1, hn1⟩ : ∃ n1, wr.heap.size = n1 := ⟨_, rfl⟩
      rw [hn1] at HB2 HR2 HS2
      obtain ⟨q, hq⟩ : ∃ q, ts.length = q := ⟨_, rfl⟩
      rw [hq] at htl ⊢
      have HQ := hideIt hq
      have qI : (q : Int) ≤ 900000 := by omega
      have HO2 := hideIt hown2
      clear hk2 hN2 hrow2 hq HL1 HO hown2
      go_loopw [3, 33] (fun v t wx => ∃ (j : Nat) (L' : List (List UInt8)), j ≤ q ∧ t = .int .i64 j ∧ Got K (fun id => dirL id ∈ ss.take i ∨ fileL id ∈ ts.take j) L' ∧ wx.ownsRow w1.heap.size 9 1 v L'.length (L'.map encStr) ∧ (∀ g, v.ownBlock = some g → g < n1 ∨ w2.heap.size ≤ g) ∧ StrRow n1 wx a2 (ts.map fun t => nameB false (Vc.bs t)) ∧ w2.heap.size ≤ wx.heap.size ∧ Kept [] w1 wx) (fun _ t _ => q - (intOf t).toNat)
      case atStart => exact ⟨0, L, by omega, rfl, got_in HGG.out ts, HO2.out, fun g hg => .inl (HB2.out g hg), HR2.out, Nat.le_refl _, HK2.out⟩
      case round =>
        obtain ⟨j, L2, hj, rfl, hG2, hown3, hap, hrow3, hsz3, hkx⟩ := hrel
        clear HO2 HR2 HK2 HB2 HGG HKR
        by_cases hlq : j < q
        · have hje : decide ((j : Int) < (q : Int)) = true := decide_eq_true (by omega)
          have j1 : (j : Int) < (q : Int) := by omega
          have hjl : j < ts.length := by rw [HQ.out]; exact hlq
          obtain ⟨t, ht⟩ : ∃ t, ts[j]? = some t := ⟨_, List.getElem?_eq_getElem hjl⟩
          have hN2 := HN2.out
          rw [← HD.out] at hN2
          obtain ⟨jd, hjd, rfl, hdd, _⟩ := HK.out.files HID.out hN2 t (List.mem_of_getElem? ht)
          have hjl2 := HK.out.len jd hjd
          obtain ⟨g2, cur2, rfl, hBg2, hg2, hcm2, hcell2⟩ := hrow3 (by rw [List.length_map]; omega)
          have hsi := hcell2 j (Vc.bs (Cb.Cd.hexL (jd.drop 1))) (by rw [List.getElem?_map, ht, ← name_file]; rfl)
          have y0 := cell_in hg2 hsi
          have y0f := thawAt hg2 j
          have hg2lt := HA2.out g2 (by omega) rfl
          have HNEW : Hid (Got K (fun id => dirL id ∈ ss.take i ∨ fileL id ∈ ts.take (j + 1)) (L2 ++ [jd])) := hideIt (got_one HN.out.2.2.2 HN2.out.2.1 (up_of HN2.out.2.1 HN2.out.2.2) hG2 HK.out.len (by rw [HZ.out, (dirL_iff jd id).1 hdd]) ht hjd)
          have HLN : Hid (L2.length ≤ 1000) := hideIt (Nat.le_trans (got_len hG2) hKl)
          have HSJ := hideIt (HSD.out wr jd ((HK1.out.trans hkx).sub (by simp)) hjl2)
          have HP : Hid (D ++ ⟨#[47]⟩ ++ Vc.bs (Cb.Cd.hexL (jd.drop 1)) = fileP jd) := hideIt (by
            rw [← HD.out, ← hdd]
            show Vc.bs (dirL jd) ++ Vc.bs [47] ++ _ = Vc.bs _
            rw [cat_bs, cat_bs]
            simp [fileL])
          have hns : (Vc.bs (Cb.Cd.hexL (jd.drop 1))).size = 62 := by rw [Vc.bs_size, Cb.Cd.hexL_len]; simp; omega
          generalize Vc.bs (Cb.Cd.hexL (jd.drop 1)) = N at hsi y0 HP hns
          rw [← HP.out] at HSJ
          have HOW := hideIt hown3
          have HAP := hideIt hap
          have HRW := hideIt hrow3
          have HGX := hideIt hg2
          have HKX := hideIt hkx
          have HBW : Hid (w1.heap.size ≤ wr.heap.size) := hideIt hkx.size
          have HJD : Hid (encStr jd = .string (Vc.bs jd)) := hideIt rfl
          obtain ⟨J, hJ⟩ : ∃ J, Vc.bs jd = J := ⟨_, rfl⟩
          rw [hJ] at HSJ HJD
          have lnI := HLN.out
          clear ht hjl2 hdd hsi hcell2 hg2 hown3 hap hrow3 hkx hG2 hjl hN2 hJ HP
          go_wp2_with (first | (go_at_call 34; refine HSJ.out.mono ?_; rintro e w3 ⟨rfl, hb3⟩; have hO3 := (Kept.of_below hb3).row HOW.out (fun _ _ => by simp); have hB3 : w1.heap.size ≤ w3.heap.size := Nat.le_trans HBW.out hb3.size) | (at_builtin; refine wpList_append_own_at _ rfl _ _ 22 rfl w1.heap.size 9 i0 (.string ⟨#[]⟩) 1 16 Tryz.underlying22 hi0 hz0 hz1 hz2 rfl (by decide) _ _ _ rfl (hO3.alloc _) ⟨w3.heap.size, 0, none⟩ 1 1 [.string J] rfl rfl (cell_one_new _ _ _) (fun x hx => by simp at hx; subst hx; rfl) (by unfold maxLen; omega) (by omega) (by simp; omega) ?_; intro v4 w4 hown4 hg4 hnil4 hbl4))
          go_roundw
          case rel =>
            have hk4 := ((Kept.of_below hb3).trans (Kept.alloc _ _)).trans (Kept.of_grown hg4)
            refine ⟨j + 1, L2 ++ [jd], by omega, by go_num, HNEW.out, ?_, fun g hg => ?_, fun h0 => ?_, Nat.le_trans hsz3 hk4.size, ?_⟩
            · have h5 := hown4
              rw [← HJD.out] at h5
              simpa using h5
            · rcases hbl4 with e | e
              · rw [e] at hg
                exact HAP.out g hg
              · rw [e] at hg
                simp at hg
                have := hb3.size
                exact .inr (by omega)
            · obtain ⟨g', cur', e', hB', hg', r⟩ := HRW.out h0
              refine ⟨g', cur', e', hB', hk4.fs hg' (fun ha => ?_), r⟩
              simp at ha e'
              rcases HAP.out g' ha with q1 | q1
              · omega
              · omega
            · refine (HKX.out.trans hk4).fresh (fun a ha => ?_)
              simp at ha
              have := Vc.row_ge HOW.out a ha
              exact .inr (by omega)
          case measure => simp [intOf]; omega
        · have hje : decide ((j : Int) < (q : Int)) = false := decide_eq_false (by omega)
          obtain rfl : j = q := by omega
          have HNX : Hid (Got K (fun id => dirL id ∈ ss.take (i + 1)) L2) := hideIt (got_all HK.out (by have := HN2.out; rw [← HD.out] at this; exact this) hG2 HZ.out (by rw [HQ.out]; exact Nat.le_refl _))
          have HOW := hideIt hown3
          have HKX := hideIt hkx
          clear hG2 hown3 hap hrow3 hsz3 hkx
          go_wp2
          go_roundw
          case rel => exact ⟨i + 1, L2, by omega, by go_num, HNX.out, HOW.out, HKX.out⟩
          case measure => simp [intOf]; omega
    · have hie : decide ((i : Int) < (m : Int)) = false := decide_eq_false (by omega)
      obtain rfl : i = m := by omega
      have HE : Hid (L.Perm K ∧ L.Pairwise fun x y => x < y) := hideIt (got_end HK.out HN.out hG (by rw [HM.out]; exact Nat.le_refl _))
      have HO := hideIt hown
      have HKR := hideIt hkr
      clear hown hkr hG
      go_wp2
      go_ret
      refine ⟨(HK1.out.trans HKR.out).sub (by simp), _, L, HE.out.1, HE.out.2, rfl, HO.out.1, ?_⟩
      rcases HO.out.2 with h1 | ⟨g, cap, cur, h1, h2, h3⟩
      · exact .inl h1
      · exact .inr ⟨g, cap, cur, h1, by have := HSZ.out; omega, h3⟩
end
end Go.Proofs.YtbmhhlkjgnijgaaGreatDoor.Lo
namespace Go.Proofs.YtbmhhlkjgnijgaaGreatDoor.Lo
open Vc Go.RowKit Go.Shelf Go.Maps Go.Sort
/-- A name goes. -/
def lessN (n : Nm) (p : ByteArray) : Nm := fun q => if q = p then none else n q
theorem goes_at {n : Nm} {p : ByteArray} {x : Nat} (h : n p = some (some x)) (h0 : p.data.toList ≠ []) : doN n ⟨2, p, ⟨#[]⟩, some x⟩ = lessN n p := by
  have hd : isDir n p = false := isDir_not h0 (by rw [h]; simp)
  unfold doN
  rw [if_neg (show ¬ (2 : Nat) = 0 by decide), if_neg (show ¬ (2 : Nat) = 1 by decide), if_pos ⟨by rw [h]; simp, by unfold pvN; rw [h], .inl hd⟩]
  rfl
theorem less_at {n : Nm} {p q : ByteArray} (h : q ≠ p) : lessN n p q = n q := if_neg h
theorem less_gone (n : Nm) (p : ByteArray) : lessN n p p = none := if_pos rfl
theorem file_ne_nil {id : List UInt8} (hl : id.length = 32) : (fileP id).data.toList ≠ [] := ne_nil_of (by rw [file_len hl]; decide)
section
variable {n0 : Nat} {A : Nat → Prop} {b : Nat} {w w' : World} {fb : Nat} {S : Fs} {K fs : List (List UInt8)} {id : List UInt8}
theorem drop_c (hl : id.length = 32) {E : Int} {T : World → Prop} (H : ∀ X, Kept [] w X → Calls Tryz.prog 37 #[.pointer (some ⟨fb, 0, none⟩), .string (fileP id)] X fun e w' => e = .returned (.int .i64 E) ∧ T w') :
    Calls Tryz.prog 15 #[.pointer (some ⟨fb, 0, none⟩), .string (Vc.bs id)] w fun e w' => e = .returned (.int .i64 E) ∧ T w' := by
  have HP := hideIt (path_any id hl w)
  have HR := hideIt H
  clear H
  generalize fileP id = p at HP HR
  generalize Vc.bs id = i at HP ⊢
  go_enter Tryz.func15, Tryz.ntmps15
  go_wp2_with (first | (go_at_call 17; refine HP.out.mono ?_; rintro e w1 ⟨rfl, hb1⟩) | (go_at_call 37; refine (HR.out _ (Kept.of_below hb1)).mono ?_; rintro e w2 ⟨rfl, ht2⟩))
  go_ret
  exact ⟨rfl, ht2⟩
/-- What is not there. -/
theorem drop_gone (h : St P0 n0 A b w fb S) (hb : b < 890) (hl : id.length = 32) (hn : S.now (fileP id) = none) :
    Calls Tryz.prog 15 #[.pointer (some ⟨fb, 0, none⟩), .string (Vc.bs id)] w fun e w' => e = .returned (.int .i64 2) ∧ Kept [] w w' := by
  refine drop_c hl fun X hX => (remove_rep (h.kept hX).rep (by omega) (calm_nil _ _) (fileP id) (by rw [fileP_size hl]; decide)).mono fun e w' ⟨he, hr⟩ => ?_
  have e2 : S.rmE (fileP id) = 2 := by unfold Fs.rmE; rw [if_pos (fileP_path hl), hn]; rfl
  rw [e2] at he hr
  rcases hr with ⟨_, hk⟩ | ⟨h0, _⟩
  · exact ⟨he, (hX.trans hk).sub (by simp)⟩
  · cases h0
/-- A picture behind a Drop that is not settled. -/
structure Went (S : Fs) (id : List UInt8) (x : Nat) (T : Fs) : Prop where
  now : T.now = lessN S.now (fileP id)
  sure : T.sure = S.sure
  acts : T.acts = S.acts ++ [⟨2, fileP id, ⟨#[]⟩, some x⟩]
theorem drop_kp (h : St P0 n0 A b w fb S) (hb : b < 890) (hl : id.length = 32) {x : Nat} (hn : S.now (fileP id) = some (some x)) :
    Calls Tryz.prog 15 #[.pointer (some ⟨fb, 0, none⟩), .string (Vc.bs id)] w fun e w' => e = .returned (.int .i64 0) ∧ ∃ T, Went S id x T ∧ StTo P0 n0 A (b + 1) w fb T w' := by
  refine drop_c hl fun X hX => (remove_rep (h.kept hX).rep (by omega) (calm_nil _ _) (fileP id) (by rw [fileP_size hl]; decide)).mono fun e w' ⟨he, hr⟩ => ?_
  have hd : isDir S.now (fileP id) = false := isDir_not (file_ne_nil hl) (by rw [hn]; simp)
  have e0 : S.rmE (fileP id) = 0 := by unfold Fs.rmE; rw [if_pos (fileP_path hl), if_pos (by rw [hn]; rfl), if_pos (.inl hd)]
  rw [e0] at he hr
  rcases hr with ⟨h0, _⟩ | ⟨_, S', ⟨u, _, rfl⟩, hR⟩
  · exact absurd rfl h0
  · have ep : pvN S.now (fileP id) = some x := by unfold pvN; rw [hn]
    rw [ep] at hR
    have hR' : RepTo P0 n0 A (b + 1) X fb (setU (S.enact ⟨2, fileP id, ⟨#[]⟩, some x⟩) u) w' := hR
    exact ⟨he, _, ⟨by rw [setU_now, enact_now]; exact goes_at hn (file_ne_nil hl), by rw [setU_sure, enact_sure], by rw [setU_acts, enact_acts]⟩, StTo.step (fun _ hg => .inl hg) (Out.kept hX) ((h.kept hX).to hR')⟩
/-- Settled. -/
noncomputable def setS (S : Fs) (fs : List (List UInt8)) : Fs := fs.foldl (fun T s => T.syncDir (Vc.bs s)) S
theorem setS_now (S : Fs) : ∀ fs : List (List UInt8), (setS S fs).now = S.now := fun fs => by
  induction fs generalizing S with
  | nil => rfl
  | cons s t ih => exact (ih (S.syncDir (Vc.bs s))).trans rfl
theorem in_go (jd : List UInt8) (x : Option Nat) : inP (dirP jd) ⟨2, fileP id, ⟨#[]⟩, x⟩ = decide (dirP id = dirP jd) := by
  unfold inP inB
  rw [show dirOf (⟨2, fileP id, ⟨#[]⟩, x⟩ : Pa).p = dirP id from dir_file id, toL_eq]
  simp
theorem set_pic (hK : Kp S K) (hi : id ∈ K) {x : Nat} (hn : S.now (fileP id) = some (some x)) : ∀ (fs : List (List UInt8)) (T : Fs), (∀ s ∈ fs, ∃ jd : List UInt8, jd.length = 32 ∧ s = dirL jd) →
    ((T.sure = S.sure ∧ T.acts = S.acts ++ [⟨2, fileP id, ⟨#[]⟩, some x⟩] ∧ dirL id ∈ fs) ∨ (T.sure = lessN S.sure (fileP id) ∧ T.acts = S.acts)) → (setS T fs).sure = lessN S.sure (fileP id) ∧ (setS T fs).acts = S.acts
  | [], T, _, h => by
    rcases h with ⟨_, _, h⟩ | h
    · cases h
    · exact h
  | s :: t, T, hf, h => by
    obtain ⟨jd, hj, rfl⟩ := hf s (by simp)
    have hl := hK.len id hi
    have e1 : S.acts.filter (fun a => !inP (dirP jd) a) = S.acts := List.filter_eq_self.2 fun a ha => by
      obtain ⟨y, rfl⟩ := hK.incs a ha
      simp [in_inc_dir hj]
    have ea : (T.syncDir (dirP jd)).acts = T.acts.filter (fun a => !inP (dirP jd) a) := rfl
    refine set_pic hK hi hn t (T.syncDir (dirP jd)) (fun s hs => hf s (List.mem_cons_of_mem _ hs)) ?_
    rcases h with ⟨h1, h2, h3⟩ | ⟨h1, h2⟩
    · by_cases e : dirP id = dirP jd
      · right
        have hg : inP (dirP jd) ⟨2, fileP id, ⟨#[]⟩, some x⟩ = true := by rw [in_go]; exact decide_eq_true e
        constructor
        · rw [syncDir_sure, h1, h2, List.filter_append, filter_out hj hK.incs, List.filter_cons, hg, List.nil_append, if_pos rfl, List.filter_nil, List.foldl_cons, List.foldl_nil, goes_at (by rw [hK.sfile id hl]; exact hn) (file_ne_nil hl)]
        · rw [ea, h2, List.filter_append, e1, List.filter_cons, hg]
          simp
      · left
        have hg : inP (dirP jd) ⟨2, fileP id, ⟨#[]⟩, some x⟩ = false := by rw [in_go]; exact decide_eq_false e
        refine ⟨?_, ?_, ?_⟩
        · rw [syncDir_sure, h1, h2, List.filter_append, filter_out hj hK.incs, List.filter_cons, hg]
          rfl
        · rw [ea, h2, List.filter_append, e1, List.filter_cons, hg]
          rfl
        · rcases List.mem_cons.1 h3 with h3 | h3
          · exact absurd ((dirL_iff _ _).2 h3) e
          · exact h3
    · right
      constructor
      · rw [syncDir_sure, h1, h2, filter_out hj hK.incs]
        rfl
      · rw [ea, h2, e1]
/-- Behind Drop: the names. -/
theorem less_names (hK : Kp S K) (hi : id ∈ K) : Kl (lessN S.now (fileP id)) (K.erase id) ∧ Kl (lessN S.sure (fileP id)) (K.erase id) := by
  have hl := hK.len id hi
  have sub : ∀ jd ∈ K.erase id, jd ∈ K ∧ jd ≠ id := fun jd hj => ((hK.nd.mem_erase_iff).1 hj).symm
  have nf : ∀ jd ∈ K.erase id, fileP jd ≠ fileP id := fun jd hj e => (sub jd hj).2 (file_inj (hK.len jd (sub jd hj).1) hl e)
  have back : ∀ q, q ≠ fileP id → (∃ jd ∈ K, q = fileP jd) → ∃ jd ∈ K.erase id, q = fileP jd := fun q hq ⟨jd, hj, e⟩ => ⟨jd, (hK.nd.mem_erase_iff).2 ⟨fun e2 => hq (by rw [e, e2]), hj⟩, e⟩
  constructor
  · refine ⟨fun jd hj => hK.len jd (sub jd hj).1, hK.nd.erase id, by rw [less_at (obj_ne_file hl)]; exact hK.obj, by rw [less_at (Ne.symm (inc_ne_file hl)), hK.inc]; simp, fun jd hj => ?_, fun jd hj => ?_, fun jd hj => ?_, fun q hq => ?_⟩
    · rw [less_at (dir_ne_file (hK.len jd (sub jd hj).1) hl)]
      exact hK.dir jd (sub jd hj).1
    · rw [less_at (dir_ne_file hj hl)]
      exact (hK.dirs jd hj).1
    · obtain ⟨x, _, _, h2, _⟩ := hK.file jd (sub jd hj).1
      exact ⟨x, by rw [less_at (nf jd hj)]; exact h2⟩
    · by_cases e : q = fileP id
      · rw [e, less_gone] at hq; exact absurd rfl hq
      · rw [less_at e] at hq
        rcases hK.only q hq with h1 | h1 | h1
        · exact .inl h1
        · exact .inr (.inr (.inl h1))
        · exact .inr (.inr (.inr (back q e h1)))
  · refine ⟨fun jd hj => hK.len jd (sub jd hj).1, hK.nd.erase id, by rw [less_at (obj_ne_file hl)]; exact hK.sobj, by rw [less_at (Ne.symm (inc_ne_file hl))]; exact hK.sinc, fun jd hj => ?_, fun jd hj => ?_, fun jd hj => ?_, fun q hq => ?_⟩
    · have hj2 := hK.len jd (sub jd hj).1
      rw [less_at (dir_ne_file hj2 hl), (hK.dirs jd hj2).2]
      exact hK.dir jd (sub jd hj).1
    · rw [less_at (dir_ne_file hj hl), (hK.dirs jd hj).2]
      exact (hK.dirs jd hj).1
    · obtain ⟨x, _, _, h2, _⟩ := hK.file jd (sub jd hj).1
      exact ⟨x, by rw [less_at (nf jd hj), hK.sfile jd (hK.len jd (sub jd hj).1)]; exact h2⟩
    · by_cases e : q = fileP id
      · rw [e, less_gone] at hq; exact absurd rfl hq
      · rw [less_at e] at hq
        rcases hK.sonly q hq with h1 | h1 | h1 | h1
        · exact .inl h1
        · exact .inr (.inl h1)
        · exact .inr (.inr (.inl h1))
        · exact .inr (.inr (.inr (back q e h1)))
/-- There are at most so many folders. -/
theorem fold_len {n : Nm} (h : Fold n fs) : fs.length ≤ 256 := by
  have : fs ⊆ (List.range 256).map fun c => objL ++ 47 :: Cb.Cd.hexL [UInt8.ofNat c] := fun s hs => by
    obtain ⟨jd, hj, rfl, _⟩ := h.2.1 s hs
    match jd, hj with
    | c :: t, _ =>
      refine List.mem_map.2 ⟨c.toNat, List.mem_range.2 c.toNat_lt, ?_⟩
      rw [UInt8.ofNat_toNat]
      rfl
  have := h.1.length_le_of_subset this
  simpa using this
end
end Go.Proofs.YtbmhhlkjgnijgaaGreatDoor.Lo
namespace Go.Proofs.YtbmhhlkjgnijgaaGreatDoor.Lo
open Vc Go.RowKit Go.Shelf Go.Maps Go.Sort
theorem setS_one (S : Fs) {fs : List (List UInt8)} {i : Nat} {z : List UInt8} (hz : fs[i]? = some z) : setS S (fs.take (i + 1)) = (setS S (fs.take i)).syncDir (Vc.bs z) := by
  unfold setS
  rw [List.take_add_one, hz, List.foldl_append]
  rfl
section
variable {n0 : Nat} {A : Nat → Prop} {b : Nat} {w w' : World} {fb : Nat} {S : Fs} {K : List (List UInt8)}
set_option maxHeartbeats 1600000 in
set_option maxRecDepth 100000 in
theorem settle_any (h : St P0 n0 A b w fb S) (hK : Kl S.now K) (hb : b < 600) :
    Calls Tryz.prog 19 #[.pointer (some ⟨fb, 0, none⟩)] w fun e w' => e = .returned (.int .i64 0) ∧ ∃ fs, Fold S.now fs ∧ StTo P0 n0 A (b + fs.length) w fb (setS S fs) w' := by
  have HFO := hideIt (folders_any h hK (by omega))
  have HSD : Hid (∀ B X T c id, StTo P0 n0 A c B fb T X → c < 890 → id.length = 32 → T.now (dirP id) = some none → Calls Tryz.prog 41 #[.pointer (some ⟨fb, 0, none⟩), .string (dirP id)] X fun e w' => e = .returned (.int .i64 0) ∧ StTo P0 n0 A (c + 1) B fb (T.syncDir (dirP id)) w') := hideIt (fun B X T c id ⟨A2, k1, k2, k3⟩ hc hl hd => (syncDir_rep k2.rep (by omega) (calm_nil _ _) (dirP id) (by rw [dirP_size hl]; decide)).mono fun e w' ⟨he, hr⟩ => by
    have e0 : T.nfE (dirP id) = 0 := nf_of (dirP_path hl) hd
    rw [e0] at he hr
    rcases hr with ⟨h0, _⟩ | ⟨_, S', rfl, hR⟩
    · exact absurd rfl h0
    · exact ⟨he, StTo.step k1 k3 (k2.to hR)⟩)
  have HST := hideIt h
  clear h hK
  go_enter Tryz.func19, Tryz.ntmps19
  go_wp2_with (first | (go_at_call 32; refine HFO.out.mono ?_; rintro e w1 ⟨hk1, v, fs, hN, hsl, rfl, hown⟩; obtain ⟨a, c, rfl, hsr⟩ := SRow.of_row hown []))
  have HN := hideIt hN
  have HSR := hideIt hsr
  have HK1 := hideIt hk1
  have H256 := hideIt (fold_len hN)
  obtain ⟨m, hm⟩ : ∃ m, fs.length = m := ⟨_, rfl⟩
  rw [hm] at hsl H256 ⊢
  have HM := hideIt hm
  have mI : (m : Int) ≤ 900000 := by omega
  clear HFO hN hk1 hown hsr hm
  go_loopw [18] (fun t wr => ∃ i : Nat, i ≤ m ∧ t = .int .i64 i ∧ StTo P0 n0 A (b + i) w1 fb (setS S (fs.take i)) wr) (fun t _ => m - (intOf t).toNat)
  case atStart => exact ⟨0, by omega, rfl, StTo.kept (HST.out.kept HK1.out) (Kept.refl _ _)⟩
  case round =>
    obtain ⟨i, hi, rfl, hst⟩ := hrel
    by_cases hlm : i < m
    · have hie : decide ((i : Int) < (m : Int)) = true := decide_eq_true (by omega)
      have i1 : (i : Int) < (m : Int) := by omega
      have hil : i < fs.length := by rw [HM.out]; exact hlm
      obtain ⟨z, hz⟩ : ∃ z, fs[i]? = some z := ⟨_, List.getElem?_eq_getElem hil⟩
      obtain ⟨id, hid, rfl, hdn⟩ := HN.out.2.1 z (List.mem_of_getElem? hz)
      obtain ⟨g, cur, rfl, hBg, hg, hcm, _, hcell⟩ := HSR.out (by rw [HM.out]; omega)
      have hsi := hcell i (dirP id) (Nat.zero_le _) (by rw [List.getElem?_map, hz]; rfl)
      have hg2 : wr.heap[g]? = some (.cells cur 9 (0, 0)) := by
        obtain ⟨A2, k1, k2, k3⟩ := hst
        exact k3.same g _ hg (fun hA => by have := HST.out.rep.inA g hA; omega)
      have x0 := cell_in hg2 hsi
      have x0f := thawAt hg2 i
      have HSY := hideIt (HSD.out w1 wr (setS S (fs.take i)) (b + i) id hst (by have := H256.out; omega) hid (by rw [setS_now]; exact hdn))
      have HSE : Hid ((setS S (fs.take i)).syncDir (dirP id) = setS S (fs.take (i + 1))) := hideIt (setS_one S hz).symm
      rw [HSE.out] at HSY
      generalize dirP id = D at x0 hsi HSY
      clear hz hsi hcell hg hg2 hil hdn hid hst HSE
      go_wp2_with (first | (go_at_call 41; refine HSY.out.mono ?_; rintro e w3 ⟨rfl, hst3⟩))
      go_roundw
      case rel => exact ⟨i + 1, by omega, by go_num, hst3⟩
      case measure => simp [intOf]; omega
    · have hie : decide ((i : Int) < (m : Int)) = false := decide_eq_false (by omega)
      obtain rfl : i = m := by omega
      have HSX := hideIt hst
      clear hst
      go_wp2
      go_ret
      refine ⟨rfl, fs, HN.out, ?_⟩
      have e1 : fs.take i = fs := List.take_of_length_le (by rw [HM.out]; exact Nat.le_refl _)
      have hx := HSX.out
      rw [e1] at hx
      rw [HM.out]
      exact StTo.step (fun _ hg => .inl hg) (Out.kept HK1.out) hx
end
end Go.Proofs.YtbmhhlkjgnijgaaGreatDoor.Lo
namespace Go.Proofs.YtbmhhlkjgnijgaaGreatDoor.Lo
open Vc Go.RowKit Go.Shelf
section
variable {n0 : Nat} {A : Nat → Prop} {b b' : Nat} {w w' w1 : World} {fb room : Nat} {S S' : Fs}
theorem Made.kept (h : Made n0 b w fb S w1) (hk : Kept [] w1 w') : Made n0 b w fb S w' := h.step fun _ hs => StTo.kept hs hk
theorem Made.below (h : Made n0 b w fb S w1) (hk : Below w1.heap.size w1 w') : Made n0 b w fb S w' := h.kept (Kept.of_below hk)
theorem Made.bel (h : Made n0 b w fb S w1) : Below w.heap.size w w1 := by
  obtain ⟨A, h1, h2, h3⟩ := h
  exact h3
theorem Made.to (h1 : ∀ g, A g → w.heap.size ≤ g) (h3 : Below w.heap.size w w1) (k : StTo P0 n0 A b' w1 fb S' w') : Made n0 b' w fb S' w' := by
  obtain ⟨A2, k1, k2, k3⟩ := k
  refine ⟨A2, fun g hg => ?_, k2, h3.trans (k3.below h3.size h1)⟩
  rcases k1 g hg with e | e
  · exact h1 g e
  · exact Nat.le_trans h3.size e
/-- A place without power. -/
def MadeD (n0 b : Nat) (w : World) (fb : Nat) (S : Fs) (w' : World) : Prop := ∃ A : Nat → Prop, (∀ g, A g → w.heap.size ≤ g) ∧ Dead P0 n0 A b w' fb S ∧ Okn n0 w' ∧ Below w.heap.size w w'
theorem Made.crash (h : Made n0 b w fb S w1) (hb : b < 890) (keep tn : Int) :
    Calls Tryz.prog 20 #[.pointer (some ⟨fb, 0, none⟩), .int .u64 keep, .int .i64 tn] w1 fun e w' => e = .returned (.tuple #[]) ∧ ∃ S', Fell S S' keep ∧ MadeD n0 (b + 1) w fb S' w' := by
  obtain ⟨A, h1, h2, h3⟩ := h
  refine (crash_rep h2.rep (by omega) keep tn).mono fun e w' ⟨he, S', hf, A2, k1, k2, k3⟩ => ⟨he, S', hf, A2, fun g hg => ?_, k2, h2.ok.step (k3.below h2.rep.nw h2.rep.lo), h3.trans (k3.below h3.size h1)⟩
  rcases k1 g hg with e | e
  · exact h1 g e
  · exact Nat.le_trans h3.size e
theorem MadeD.up (h : MadeD n0 b w fb S w1) :
    Calls Tryz.prog 21 #[.pointer (some ⟨fb, 0, none⟩)] w1 fun e w' => e = .returned (.bool true) ∧ Made n0 b w fb S w' := by
  obtain ⟨A, h1, h2, h3, h4⟩ := h
  refine (up_rep h2).mono fun e w' ⟨he, A2, k1, k2, k3⟩ => ⟨he, A2, fun g hg => ?_, ⟨k2, h3.step (k3.below h2.nw h2.lo)⟩, h4.trans (k3.below h4.size h1)⟩
  rcases k1 g hg with e | e
  · exact h1 g e
  · exact Nat.le_trans h4.size e
/-- What a fall that keeps nothing leaves of one object that was kept. -/
theorem fell_one {id : List UInt8} (hl : id.length = 32) {p : ByteArray} {u : Int} (h : Fell (laidS (oneS room id) id p u) S' 0) : S'.now = keptN id ∧ S'.files 0 = ⟨p, p⟩ := by
  obtain ⟨l', _, h2, h3, _⟩ := h.names
  rw [h2 rfl] at h3
  refine ⟨by rw [h3]; exact one_sure hl p u, ?_⟩
  rw [h.same 0 (by rw [one_file]), one_file]
theorem kept_obj {id : List UInt8} (hl : id.length = 32) : keptN id objP = some none := by
  unfold keptN
  rw [if_neg (obj_ne_file hl)]
  exact (one_ready (room := 0) hl).obj
theorem kept_inc {id : List UInt8} (hl : id.length = 32) : keptN id incP = none := by
  unfold keptN
  rw [if_neg (Ne.symm (inc_ne_file hl))]
  exact (one_ready (room := 0) hl).inc
theorem refid_c (raw : List UInt8) (w : World) (h : raw.length ≤ 1048576) : Calls Tryz.prog 16 #[.string (Vc.bs raw)] w fun e w' => e = .returned (.string (Vc.bs (idL raw))) ∧ Below w.heap.size w w' := by
  have := Ob.refid_any (Vc.bs raw) w (by rw [Vc.bs_size]; omega)
  rw [Vc.bs_list, ← id_bs] at this
  exact this
set_option maxHeartbeats 1600000 in
set_option maxRecDepth 100000 in
theorem awake_any (ho : Okn n0 w) (hn : 0 < n0) (hw : n0 ≤ w.heap.size) :
    Calls Tryz.prog 11 #[] w fun e w' => e = .returned (.bool true) ∧ Below w.heap.size w w' := by
  obtain ⟨raw, hraw⟩ : ∃ raw, blobL [120] = raw := ⟨_, rfl⟩
  have hrl : raw.length ≤ 228 := by rw [← hraw]; exact blob_len _
  have hl := id_len raw
  have hps := press_le raw (by omega)
  obtain ⟨fb, hfb⟩ : ∃ fb, w.heap.size = fb := ⟨_, rfl⟩
  have HP0 : Hid (Calls Tryz.prog 10 #[] w fun e w' => e = .returned (.tuple #[.pointer (some ⟨fb, 0, none⟩), .bool true]) ∧ Made n0 3 w fb (baseS 1048576) w') := hideIt (by rw [← hfb]; exact place_any ho hn hw)
  have HB : Hid (∀ X, Calls Tryz.prog 9 #[.string ⟨#[120]⟩] X fun e w' => e = .returned (.string (Vc.bs raw)) ∧ Below X.heap.size X w') := hideIt (fun X => by have := blob_any [120] X; rw [hraw] at this; exact this)
  have HPU : Hid (∀ X, Made n0 3 w fb (baseS 1048576) X → Calls Tryz.prog 12 #[.pointer (some ⟨fb, 0, none⟩), .string (Vc.bs raw)] X fun e w' => e = .returned (.tuple #[.string (Vc.bs (idL raw)), .int .i64 0]) ∧ ∃ u, Made n0 9 w fb (laidS (oneS 1048576 (idL raw)) (idL raw) (prP raw) u) w') := hideIt (fun X hX => by
    obtain ⟨A, h1, h2, h3⟩ := hX
    have := put_base h2 (by decide) ([120].take 200) (by decide)
    rw [show Ob.rawL 1 ([120].take 200) = raw from hraw] at this
    refine this.mono fun e w' hr => ?_
    rcases hr with ⟨h4, _⟩ | ⟨_, he, u, hs⟩
    · omega
    · exact ⟨he, u, Made.to h1 h3 hs⟩)
  have HCR : Hid (∀ X u, Made n0 9 w fb (laidS (oneS 1048576 (idL raw)) (idL raw) (prP raw) u) X → Calls Tryz.prog 20 #[.pointer (some ⟨fb, 0, none⟩), .int .u64 0, .int .i64 0] X fun e w' => e = .returned (.tuple #[]) ∧ ∃ S', (S'.now = keptN (idL raw) ∧ S'.files 0 = ⟨prP raw, prP raw⟩) ∧ MadeD n0 10 w fb S' w') := hideIt (fun X u hX => (hX.crash (by decide) 0 0).mono fun e w' ⟨he, S', hf, hd⟩ => ⟨he, S', fell_one hl hf, hd⟩)
  have HUP : Hid (∀ X S', MadeD n0 10 w fb S' X → Calls Tryz.prog 21 #[.pointer (some ⟨fb, 0, none⟩)] X fun e w' => e = .returned (.bool true) ∧ Made n0 10 w fb S' w') := hideIt (fun X S' hX => hX.up)
  have HGE : Hid (∀ X S', (S'.now = keptN (idL raw) ∧ S'.files 0 = ⟨prP raw, prP raw⟩) → Made n0 10 w fb S' X → Calls Tryz.prog 14 #[.pointer (some ⟨fb, 0, none⟩), .string (Vc.bs (idL raw))] X fun e w' => e = .returned (.tuple #[.string (Vc.bs raw), .int .i64 0]) ∧ Made n0 10 w fb S' w') := hideIt (fun X S' ⟨hn', hf⟩ ⟨A, h1, h2, h3⟩ => by
    have hx : S'.now (fileP (idL raw)) = some (some 0) := by rw [hn', keptN, if_pos rfl]
    refine (get_there h2 (idL raw) hl hx).mono fun e w' ⟨he, hk⟩ => ⟨?_, Made.kept ⟨A, h1, h2, h3⟩ hk⟩
    rw [he, hf]
    show Ending.returned (getV (getR (prP raw) (idL raw))) = _
    rw [get_press raw (by omega)]
    rfl)
  have HRI : Hid (∀ X, Calls Tryz.prog 16 #[.string (Vc.bs raw)] X fun e w' => e = .returned (.string (Vc.bs (idL raw))) ∧ Below X.heap.size X w') := hideIt (fun X => refid_c raw X (by omega))
  have HOP : Hid (∀ X S', (S'.now = keptN (idL raw) ∧ S'.files 0 = ⟨prP raw, prP raw⟩) → Made n0 10 w fb S' X → Calls Tryz.prog 23 #[.pointer (some ⟨fb, 0, none⟩)] X fun e w' => e = .returned (.int .i64 0) ∧ Below w.heap.size w w') := hideIt (fun X S' ⟨hn', hf⟩ ⟨A, h1, h2, h3⟩ => (open_there h2 (by decide) (by rw [hn']; exact kept_obj hl) (by rw [hn']; exact kept_inc hl)).mono fun e w' ⟨he, hs⟩ => ⟨he, (Made.to h1 h3 hs).bel⟩)
  obtain ⟨T1, hT1⟩ : ∃ T : World → Prop, T = Made n0 3 w fb (baseS 1048576) := ⟨_, rfl⟩
  obtain ⟨T2, hT2⟩ : ∃ T : Int → World → Prop, T = fun u => Made n0 9 w fb (laidS (oneS 1048576 (idL raw)) (idL raw) (prP raw) u) := ⟨_, rfl⟩
  obtain ⟨T3, hT3⟩ : ∃ T : Fs → World → Prop, T = MadeD n0 10 w fb := ⟨_, rfl⟩
  obtain ⟨T4, hT4⟩ : ∃ T : Fs → World → Prop, T = Made n0 10 w fb := ⟨_, rfl⟩
  obtain ⟨Q, hQ⟩ : ∃ Q : Fs → Prop, Q = fun S' => S'.now = keptN (idL raw) ∧ S'.files 0 = ⟨prP raw, prP raw⟩ := ⟨_, rfl⟩
  replace HP0 : Hid (Calls Tryz.prog 10 #[] w fun e w' => e = .returned (.tuple #[.pointer (some ⟨fb, 0, none⟩), .bool true]) ∧ T1 w') := by rw [hT1]; exact HP0
  have HT1 : Hid (∀ X Y, T1 X → Below X.heap.size X Y → T1 Y) := hideIt (by rw [hT1]; exact fun X Y h k => h.below k)
  replace HPU : Hid (∀ X, T1 X → Calls Tryz.prog 12 #[.pointer (some ⟨fb, 0, none⟩), .string (Vc.bs raw)] X fun e w' => e = .returned (.tuple #[.string (Vc.bs (idL raw)), .int .i64 0]) ∧ ∃ u, T2 u w') := by rw [hT1, hT2]; exact HPU
  replace HCR : Hid (∀ X u, T2 u X → Calls Tryz.prog 20 #[.pointer (some ⟨fb, 0, none⟩), .int .u64 0, .int .i64 0] X fun e w' => e = .returned (.tuple #[]) ∧ ∃ S', Q S' ∧ T3 S' w') := by rw [hT2, hT3, hQ]; exact HCR
  replace HUP : Hid (∀ X S', T3 S' X → Calls Tryz.prog 21 #[.pointer (some ⟨fb, 0, none⟩)] X fun e w' => e = .returned (.bool true) ∧ T4 S' w') := by rw [hT3, hT4]; exact HUP
  replace HGE : Hid (∀ X S', Q S' → T4 S' X → Calls Tryz.prog 14 #[.pointer (some ⟨fb, 0, none⟩), .string (Vc.bs (idL raw))] X fun e w' => e = .returned (.tuple #[.string (Vc.bs raw), .int .i64 0]) ∧ T4 S' w') := by rw [hT4, hQ]; exact HGE
  have HT4 : Hid (∀ X Y S', T4 S' X → Below X.heap.size X Y → T4 S' Y) := hideIt (by rw [hT4]; exact fun X Y S' h k => h.below k)
  replace HOP : Hid (∀ X S', Q S' → T4 S' X → Calls Tryz.prog 23 #[.pointer (some ⟨fb, 0, none⟩)] X fun e w' => e = .returned (.int .i64 0) ∧ Below w.heap.size w w') := by rw [hT4, hQ]; exact HOP
  clear hT1 hT2 hT3 hT4 hQ ho hn hw hfb hl hps hrl hraw
  generalize Vc.bs (idL raw) = i at HPU HGE HRI
  generalize Vc.bs raw = r at HB HPU HGE HRI
  have q1 : (i.toList == i.toList) = true := by simp
  have q2 : (r.toList == r.toList) = true := by simp
  go_enter Tryz.func11, Tryz.ntmps11
  go_wp2_with (first
    | (go_at_call 10; refine HP0.out.mono ?_; rintro e w1 ⟨rfl, ht1⟩)
    | (go_at_call 12; refine (HPU.out _ (HT1.out _ _ ht1 hb2)).mono ?_; rintro e w3 ⟨rfl, u, ht3⟩)
    | (go_at_call 20; refine (HCR.out _ _ ht3).mono ?_; rintro e w4 ⟨rfl, S4, hq4, ht4⟩)
    | (go_at_call 21; refine (HUP.out _ _ ht4).mono ?_; rintro e w5 ⟨rfl, ht5⟩)
    | (go_at_call 14; refine (HGE.out _ _ hq4 ht5).mono ?_; rintro e w6 ⟨rfl, ht6⟩)
    | (go_at_call 16; refine (HRI.out _).mono ?_; rintro e w8 ⟨rfl, hb8⟩)
    | (go_at_call 23; refine (HOP.out _ _ hq4 (HT4.out _ _ _ (HT4.out _ _ _ ht6 hb2) hb8)).mono ?_; rintro e w9 ⟨rfl, hb9⟩)
    | (go_at_call 9; refine (HB.out _).mono ?_; rintro e w2 ⟨rfl, hb2⟩))
  go_ret
  exact ⟨rfl, Ob.below2 hb9 hb2⟩
end
end Go.Proofs.YtbmhhlkjgnijgaaGreatDoor.Lo
namespace Go.Proofs.YtbmhhlkjgnijgaaGreatDoor.Lo
open Vc Go.RowKit Go.Shelf Go.Maps Go.Sort
section
variable {n0 : Nat} {A : Nat → Prop} {b : Nat} {w w' w1 W : World} {fb : Nat} {S : Fs} {K : List (List UInt8)}
theorem sy_nil (S : Fs) : S.syE ⟨#[]⟩ = 30 := by
  unfold Fs.syE
  rw [if_neg (by decide)]
set_option maxHeartbeats 800000 in
set_option maxRecDepth 100000 in
theorem get_noid (h : St P0 n0 A b w fb S) (t : ByteArray) (ht : t.size ≠ 32) :
    Calls Tryz.prog 14 #[.pointer (some ⟨fb, 0, none⟩), .string t] w fun e w' => e = .returned (.tuple #[.string ⟨#[]⟩, .int .i64 2]) ∧ Kept [] w w' := by
  have HP := hideIt (path_none t ht w)
  have HR : Hid (Calls Tryz.prog 35 #[.pointer (some ⟨fb, 0, none⟩), .string ⟨#[]⟩] w fun e w' => e = .returned (.tuple #[.string ⟨#[]⟩, .int .i64 30]) ∧ Kept [] w w') := hideIt ((read_rep h.rep (calm_nil _ _) ⟨#[]⟩ (by decide)).mono fun e w' ⟨hk, hr⟩ => by
    rcases hr with ⟨_, he⟩ | ⟨h0, _⟩
    · rw [sy_nil] at he; exact ⟨he, hk⟩
    · rw [sy_nil] at h0; cases h0)
  clear h ht
  go_enter Tryz.func14, Tryz.ntmps14
  go_wp2_with (first | (go_at_call 17; refine HP.out.mono ?_; rintro e wx ⟨rfl, hwx⟩; obtain rfl := hwx.symm) | (go_at_call 35; refine HR.out.mono ?_; rintro e w1 ⟨rfl, hk1⟩))
  go_ret2
  exact ⟨rfl, hk1⟩
set_option maxHeartbeats 800000 in
set_option maxRecDepth 100000 in
theorem has_noid (h : St P0 n0 A b w fb S) (t : ByteArray) (ht : t.size ≠ 32) :
    Calls Tryz.prog 18 #[.pointer (some ⟨fb, 0, none⟩), .string t] w fun e w' => e = .returned (.bool false) ∧ Kept [] w w' := by
  have HP := hideIt (path_none t ht w)
  have HR : Hid (Calls Tryz.prog 35 #[.pointer (some ⟨fb, 0, none⟩), .string ⟨#[]⟩] w fun e w' => e = .returned (.tuple #[.string ⟨#[]⟩, .int .i64 30]) ∧ Kept [] w w') := hideIt ((read_rep h.rep (calm_nil _ _) ⟨#[]⟩ (by decide)).mono fun e w' ⟨hk, hr⟩ => by
    rcases hr with ⟨_, he⟩ | ⟨h0, _⟩
    · rw [sy_nil] at he; exact ⟨he, hk⟩
    · rw [sy_nil] at h0; cases h0)
  clear h ht
  go_enter Tryz.func18, Tryz.ntmps18
  go_wp2_with (first | (go_at_call 17; refine HP.out.mono ?_; rintro e wx ⟨rfl, hwx⟩; obtain rfl := hwx.symm) | (go_at_call 35; refine HR.out.mono ?_; rintro e w1 ⟨rfl, hk1⟩))
  go_ret
  exact ⟨rfl, hk1⟩
/-- So many objects were put. -/
def Run (n0 : Nat) (W : World) (fb i : Nat) (w' : World) : Prop := ∃ b S K, b ≤ 3 + 6 * i ∧ Kp S K ∧ K.length ≤ i ∧ S.used ≤ 920 * (i : Int) ∧ S.room = 1048576 ∧ Made n0 b W fb S w'
theorem run_start (h : Made n0 3 W fb (baseS 1048576) w') : Run n0 W fb 0 w' := ⟨3, _, [], by omega, kp_base _, by simp, by show (0 : Int) ≤ _; omega, rfl, h⟩
theorem Run.below {i : Nat} (h : Run n0 W fb i w1) (hb : Below w1.heap.size w1 w') : Run n0 W fb i w' := by
  obtain ⟨b, S, K, h1, h2, h3, h4, h5, h6⟩ := h
  exact ⟨b, S, K, h1, h2, h3, h4, h5, h6.below hb⟩
theorem Run.bel {i : Nat} (h : Run n0 W fb i w1) : Below W.heap.size W w1 := by
  obtain ⟨b, S, K, h1, h2, h3, h4, h5, h6⟩ := h
  exact h6.bel
theorem Run.put {i : Nat} (h : Run n0 W fb i w1) (hi : i < 12) (s : List UInt8) :
    Calls Tryz.prog 12 #[.pointer (some ⟨fb, 0, none⟩), .string (Vc.bs (blobL s))] w1 fun e w' => e = .returned (.tuple #[.string (Vc.bs (idL (blobL s))), .int .i64 0]) ∧ Run n0 W fb (i + 1) w' := by
  obtain ⟨b, S, K, h1, h2, h3, h4, h5, A, k1, k2, k3⟩ := h
  have hbl := blob_len s
  have hps := press_le (blobL s) (by omega)
  have HL := (links_blob (s.take 200) (by simp; omega) w1 k2.ok.ok).mono (R' := fun e w' => (∃ v, e = .returned (.tuple #[v, .int .i64 0])) ∧ Below w1.heap.size w1 w') fun e w' ⟨he, hb⟩ => ⟨⟨_, he⟩, hb⟩
  refine (put_kp k2 h2 (by omega) (blobL s) (by omega) (by rw [h5]; omega) HL).mono fun e w' ⟨he, S', b', K', q1, q2, q3, q4, q5, q6⟩ => ⟨he, b', S', K', by omega, q2, ?_, by omega, by rw [q4, h5], Made.to k1 k3 q6⟩
  have := q2.nd.length_le_of_subset (l₂ := idL (blobL s) :: K) fun id hi => List.mem_cons.2 ((q5 id).1 hi)
  simp at this
  omega
/-- A fall, and power again, at a place of which something else is to stay. -/
def DeTo (n0 : Nat) (A : Nat → Prop) (b : Nat) (w : World) (fb : Nat) (S : Fs) (w' : World) : Prop := ∃ A2 : Nat → Prop, (∀ g, A2 g → A g ∨ w.heap.size ≤ g) ∧ Dead P0 n0 A2 b w' fb S ∧ Okn n0 w' ∧ Out A w w'
theorem StTo.crash (h : StTo P0 n0 A b w fb S w1) (hb : b < 890) (keep tn : Int) :
    Calls Tryz.prog 20 #[.pointer (some ⟨fb, 0, none⟩), .int .u64 keep, .int .i64 tn] w1 fun e w' => e = .returned (.tuple #[]) ∧ ∃ S', Fell S S' keep ∧ DeTo n0 A (b + 1) w fb S' w' := by
  obtain ⟨A1, h1, h2, h3⟩ := h
  refine (crash_rep h2.rep (by omega) keep tn).mono fun e w' ⟨he, S', hf, A2, k1, k2, k3⟩ => ⟨he, S', hf, A2, fun g hg => ?_, k2, h2.ok.step (k3.below h2.rep.nw h2.rep.lo), h3.trans k3 h1⟩
  rcases k1 g hg with e | e
  · exact h1 g e
  · exact .inr (Nat.le_trans h3.size e)
theorem DeTo.up (h : DeTo n0 A b w fb S w1) :
    Calls Tryz.prog 21 #[.pointer (some ⟨fb, 0, none⟩)] w1 fun e w' => e = .returned (.bool true) ∧ StTo P0 n0 A b w fb S w' := by
  obtain ⟨A1, h1, h2, h3, h4⟩ := h
  refine (up_rep h2).mono fun e w' ⟨he, A2, k1, k2, k3⟩ => ⟨he, A2, fun g hg => ?_, ⟨k2, h3.step (k3.below h2.nw h2.lo)⟩, h4.trans k3 h1⟩
  rcases k1 g hg with e | e
  · exact h1 g e
  · exact .inr (Nat.le_trans h4.size e)
/-- The ids were told. -/
def Told (n0 : Nat) (W : World) (fb : Nat) (A : Nat → Prop) (B b : Nat) (S : Fs) (K L : List (List UInt8)) (v : Value) (w1 : World) : Prop :=
  b ≤ 51 ∧ Kp S K ∧ K.length ≤ 8 ∧ (∀ g, A g → W.heap.size ≤ g ∧ g < B) ∧ St P0 n0 A b w1 fb S ∧ Below W.heap.size W w1 ∧ L.Perm K ∧ w1.ownsRow B 9 1 v L.length (L.map encStr)
theorem Run.list {i : Nat} (h : Run n0 W fb i w1) (hi : i ≤ 8) : ∃ n, n ≤ 8 ∧
    Calls Tryz.prog 13 #[.pointer (some ⟨fb, 0, none⟩)] w1 fun e w' => ∃ A B b S K L v, L.length = n ∧ e = .returned v ∧ Told n0 W fb A B b S K L v w' := by
  obtain ⟨b, S, K, h1, h2, h3, h4, h5, A, k1, k2, k3⟩ := h
  refine ⟨K.length, by omega, (list_any k2 h2.names (by omega) (by omega)).mono fun e w' ⟨hk, v, L, hp, _, he, ho⟩ => ⟨A, w1.heap.size, b, S, K, L, v, hp.length_eq, he, by omega, h2, by omega, fun g hg => ⟨k1 g hg, k2.rep.inA g hg⟩, k2.kept hk, k3.trans ((Out.kept (A := A) hk).below k3.size k1), hp, ho⟩⟩
/-- The road behind: an object is dropped, settled, and gone behind a fall. -/
theorem tail_some {B : Nat} {L : List (List UInt8)} {v : Value} {id : List UInt8} (h : Told n0 W fb A B b S K L v w) (hi : id ∈ K) : ∃ Q1 Q2 Q3 Q4 : World → Prop,
    (Calls Tryz.prog 15 #[.pointer (some ⟨fb, 0, none⟩), .string (Vc.bs id)] w fun e w' => e = .returned (.int .i64 0) ∧ Q1 w') ∧
    (∀ X, Q1 X → Calls Tryz.prog 19 #[.pointer (some ⟨fb, 0, none⟩)] X fun e w' => e = .returned (.int .i64 0) ∧ Q2 w') ∧
    (∀ X, Q2 X → Calls Tryz.prog 20 #[.pointer (some ⟨fb, 0, none⟩), .int .u64 0, .int .i64 0] X fun e w' => e = .returned (.tuple #[]) ∧ Q3 w') ∧
    (∀ X, Q3 X → Calls Tryz.prog 21 #[.pointer (some ⟨fb, 0, none⟩)] X fun e w' => e = .returned (.bool true) ∧ Q4 w') ∧
    (∀ X, Q4 X → Calls Tryz.prog 14 #[.pointer (some ⟨fb, 0, none⟩), .string (Vc.bs id)] X fun e w' => e = .returned (.tuple #[.string ⟨#[]⟩, .int .i64 2]) ∧ Q4 w') ∧
    (∀ X, Q4 X → Calls Tryz.prog 13 #[.pointer (some ⟨fb, 0, none⟩)] X fun e w' => (∃ a c, e = .returned (.slice a (L.length - 1) c)) ∧ Q4 w') ∧
    (∀ X, Q4 X → Calls Tryz.prog 15 #[.pointer (some ⟨fb, 0, none⟩), .string (Vc.bs id)] X fun e w' => e = .returned (.int .i64 2) ∧ Q4 w') ∧
    (∀ X, Q4 X → Out A w X) ∧ ∀ X, Q4 X → Below W.heap.size W X := by
  obtain ⟨hb, hK, hK8, hA, hS, hW, hp, ho⟩ := h
  have hl := hK.len id hi
  obtain ⟨x, _, _, hn, _⟩ := hK.file id hi
  obtain ⟨kn, ks⟩ := less_names hK hi
  have hgone : lessN S.sure (fileP id) (fileP id) = none := less_gone _ _
  have hlen : (K.erase id).length = L.length - 1 := by rw [List.length_erase_of_mem hi, hp.length_eq]
  refine ⟨fun X => ∃ T, Went S id x T ∧ StTo P0 n0 A (b + 1) w fb T X, fun X => ∃ c T, c ≤ 400 ∧ T.sure = lessN S.sure (fileP id) ∧ StTo P0 n0 A c w fb T X, fun X => ∃ c T, c ≤ 401 ∧ T.now = lessN S.sure (fileP id) ∧ DeTo n0 A c w fb T X, fun X => ∃ c T, c ≤ 401 ∧ T.now = lessN S.sure (fileP id) ∧ StTo P0 n0 A c w fb T X, ?_, ?_, ?_, ?_, ?_, ?_, ?_, ?_, ?_⟩
  · exact drop_kp hS (by omega) hl hn
  · rintro X ⟨T, hT, A1, k1, k2, k3⟩
    refine (settle_any k2 (by rw [hT.now]; exact kn) (by omega)).mono fun e w' ⟨he, fs, hf, hs⟩ => ⟨he, b + 1 + fs.length, setS T fs, by have := fold_len hf; omega, ?_, StTo.step k1 k3 hs⟩
    refine (set_pic hK hi hn fs T (fun s hs => ?_) (.inl ⟨hT.sure, hT.acts, ?_⟩)).1
    · obtain ⟨jd, q1, q2, _⟩ := hf.2.1 s hs
      exact ⟨jd, q1, q2⟩
    · refine hf.2.2.1 id hl ?_
      rw [hT.now, less_at (dir_ne_file hl hl)]
      exact hK.dir id hi
  · rintro X ⟨c, T, hc, hT, hs⟩
    refine (hs.crash (by omega) 0 0).mono fun e w' ⟨he, S', hf, hd⟩ => ⟨he, c + 1, S', by omega, ?_, hd⟩
    obtain ⟨l', _, h2, h3, _⟩ := hf.names
    rw [h3, h2 rfl, List.foldl_nil, hT]
  · rintro X ⟨c, T, hc, hT, hs⟩
    exact hs.up.mono fun e w' ⟨he, hs'⟩ => ⟨he, c, T, hc, hT, hs'⟩
  · rintro X ⟨c, T, hc, hT, A1, k1, k2, k3⟩
    exact (get_gone k2 id hl (by rw [hT]; exact hgone)).mono fun e w' ⟨he, hk⟩ => ⟨he, c, T, hc, hT, StTo.step k1 k3 (StTo.kept k2 hk)⟩
  · rintro X ⟨c, T, hc, hT, A1, k1, k2, k3⟩
    refine (list_any (K := K.erase id) k2 (by rw [hT]; exact ks) (by omega) (by rw [hlen, hp.length_eq]; omega)).mono fun e w' ⟨hk, v', L', hp', _, he, ho'⟩ => ⟨?_, c, T, hc, hT, StTo.step k1 k3 (StTo.kept k2 hk)⟩
    obtain ⟨a, c', e', _⟩ := SRow.of_row ho' []
    exact ⟨a, c', by rw [he, e', hp'.length_eq, hlen]⟩
  · rintro X ⟨c, T, hc, hT, A1, k1, k2, k3⟩
    exact (drop_gone k2 (by omega) hl (by rw [hT]; exact hgone)).mono fun e w' ⟨he, hk⟩ => ⟨he, c, T, hc, hT, StTo.step k1 k3 (StTo.kept k2 hk)⟩
  · rintro X ⟨c, T, hc, hT, A1, k1, k2, k3⟩
    exact k3
  · rintro X ⟨c, T, hc, hT, A1, k1, k2, k3⟩
    exact hW.trans (k3.below hW.size fun g hg => (hA g hg).1)
/-- Nothing was kept. -/
theorem tail_none {B : Nat} {L : List (List UInt8)} {v : Value} (h : Told n0 W fb A B b S K L v w) (h0 : L.length = 0) : ∃ Q : World → Prop, Q w ∧
    (∀ X, Q X → Calls Tryz.prog 14 #[.pointer (some ⟨fb, 0, none⟩), .string ⟨#[110, 111, 32, 105, 100]⟩] X fun e w' => e = .returned (.tuple #[.string ⟨#[]⟩, .int .i64 2]) ∧ Q w') ∧
    (∀ X, Q X → Calls Tryz.prog 15 #[.pointer (some ⟨fb, 0, none⟩), .string (Vc.bs (idL []))] X fun e w' => e = .returned (.int .i64 2) ∧ Q w') ∧
    (∀ X, Q X → Calls Tryz.prog 18 #[.pointer (some ⟨fb, 0, none⟩), .string ⟨#[]⟩] X fun e w' => e = .returned (.bool false) ∧ Q w') ∧
    (∀ X Y, Q X → Below X.heap.size X Y → Q Y) ∧ ∀ X, Q X → Below W.heap.size W X := by
  obtain ⟨hb, hK, hK8, hA, hS, hW, hp, ho⟩ := h
  obtain rfl : K = [] := List.eq_nil_of_length_eq_zero (by rw [← hp.length_eq]; exact h0)
  have hn : S.now (fileP (idL [])) = none := hK.none (id_len _) (by simp)
  refine ⟨fun X => Kept [] w X, Kept.refl _ _, fun X hX => ?_, fun X hX => ?_, fun X hX => ?_, fun X Y hX hY => (hX.trans (Kept.of_below hY)).sub (by simp), fun X hX => hW.trans ((Out.kept (A := A) hX).below hW.size fun g hg => (hA g hg).1)⟩
  · exact (get_noid (hS.kept hX) _ (by decide)).mono fun e w' ⟨he, hk⟩ => ⟨he, (hX.trans hk).sub (by simp)⟩
  · exact (drop_gone (hS.kept hX) (by omega) (id_len _) hn).mono fun e w' ⟨he, hk⟩ => ⟨he, (hX.trans hk).sub (by simp)⟩
  · exact (has_noid (hS.kept hX) _ (by decide)).mono fun e w' ⟨he, hk⟩ => ⟨he, (hX.trans hk).sub (by simp)⟩
end
end Go.Proofs.YtbmhhlkjgnijgaaGreatDoor.Lo
namespace Go.Proofs.YtbmhhlkjgnijgaaGreatDoor.Lo
open Go.ChangeShapes Go.WideShapes Go.ChangeAt Go.WideMaps Go.WideElems Go.RowKit Go.Deep
set_option maxRecDepth 100000
/-- Texts that lie in memory one behind the other. -/
def TCells (w : World) (b o : Nat) (l : List ByteArray) : Prop := b < w.heap.size ∧ ∀ (i : Nat) (x : ByteArray), l[i]? = some x → w.cell? ⟨b, o + i, none⟩ = some (.string x)
def TRow (w : World) (v : Value) (l : List ByteArray) : Prop := ∃ a c, v = .slice a l.length c ∧ l.length ≤ c ∧ (c ≤ maxLen ∧ (a = none → c = 0)) ∧ (0 < l.length → ∃ b o, a = some ⟨b, o, none⟩ ∧ TCells w b o l)
theorem pcells9 : Tryz.prog.cellsOf 9 = 1 := by kernel_rfl
theorem pcell_lt {w : World} {a : Addr} {v : Value} (h : w.cell? a = some v) : a.block < w.heap.size := by
  rcases Nat.lt_or_ge a.block w.heap.size with h' | h'
  · exact h'
  · have : w.heap[a.block]? = none := Array.getElem?_eq_none h'
    simp [World.cell?, this] at h
theorem pcell_none {w : World} {b o : Nat} {sp : Option Nat} {v : Value} (h : w.cell? ⟨b, o, sp⟩ = some v) : sp = none := by
  cases sp with
  | none => rfl
  | some k =>
    unfold World.cell? at h
    split at h <;> simp at h
theorem padd (b o i : Nat) : ((⟨b, o, none⟩ : Addr).add i) = ⟨b, o + i, none⟩ := by
  unfold Addr.add
  by_cases hi : i = 0 <;> simp [hi]
/-- A row of texts, opened. -/
theorem open_texts {H : Type} {enc : TypeId × Value → H} {W : World} {fuel : Nat} {v : Value} {y : DataW H × List MemPlace} (hf : DataW.trod enc Tryz.prog W 0 (fun _ => true) true fuel 22 [v] = some y) :
    ∃ l : List ByteArray, TRow W v l ∧ (∀ p ∈ y.2, p.block < W.heap.size) := by
  rcases open_slice Tryz.underlying22 hf with ⟨hcs, hx⟩ | ⟨a, len, cap, m, n, D, Pl, hcs, hb, hl, hm, hmm, hx, hel⟩
  · simp only [List.cons.injEq, and_true] at hcs
    subst hcs
    refine ⟨[], ⟨none, 0, rfl, Nat.le_refl _, ⟨Nat.zero_le _, fun _ => rfl⟩, fun h => by simp at h⟩, ?_⟩
    rw [hx]
    simp
  · simp only [List.cons.injEq, and_true] at hcs
    subst hcs
    simp only [if_true] at hmm
    subst hmm
    rw [pcells9] at hel hx
    obtain ⟨E, hE⟩ := choose_lt (α := ByteArray) (p := fun i x => W.cell? (a.add i) = some (.string x) ∧ Pl i = []) (n := m) (fun i hi => by
      obtain ⟨cs', h1, h2⟩ := hel i hi
      obtain ⟨z, rfl, hz, _⟩ := DataW.trod_string Tryz.underlying9 h2
      obtain ⟨_, _, hc⟩ := World.cells?_some h1
      have := hc 0 (by omega)
      simp only [Nat.mul_one] at this
      refine ⟨z, ?_, ?_⟩
      · simpa [Addr.add] using this
      · simpa using congrArg Prod.snd hz)
    have hlt : 0 < m → a.block < W.heap.size ∧ a.spot = none := by
      intro h0
      have h1 : W.cell? a = some (.string (E 0)) := by
        have := (hE 0 h0).1
        simpa [Addr.add] using this
      exact ⟨pcell_lt h1, by obtain ⟨b, o, sp⟩ := a; exact pcell_none h1⟩
    refine ⟨(List.range len).map E, ⟨some a, m, by simp, by simpa using hl, ⟨hm, fun h => by cases h⟩, fun h0 => ?_⟩, ?_⟩
    · have h0' : 0 < len := by simpa using h0
      obtain ⟨h1, h2⟩ := hlt (by omega)
      refine ⟨a.block, a.off, by rw [← h2], h1, fun i x hx => ?_⟩
      have hi : i < len := by have := (List.getElem?_eq_some_iff.1 hx).1; simpa using this
      have hxe : x = E i := by
        rw [List.getElem?_map, List.getElem?_range hi] at hx
        simpa using hx.symm
      subst hxe
      have e0 := (hE i (by omega)).1
      obtain ⟨b, o, sp⟩ := a
      simp only at h2
      subst h2
      rw [padd] at e0
      exact e0
    · intro p hp
      rw [hx] at hp
      rcases List.mem_append.1 hp with hp | hp
      · obtain ⟨k, hk, rfl⟩ := MemPlace.mem_row.1 hp
        exact (hlt (by omega)).1
      · obtain ⟨i, hi, hp⟩ := List.mem_flatMap.1 hp
        rw [(hE i (List.mem_range.1 hi)).2] at hp
        cases hp
/-- Texts as an argument, opened. -/
theorem open_texts_arg {H : Type} {enc : TypeId × Value → H} {W : World} {b0 : Nat} {r : Reach} {v : Value} {d : DataW H} {ps : List MemPlace} (hv : Value.okWide Tryz.prog W r b0 22 v) (h : DataW.Trod enc Tryz.prog W 0 (fun _ => true) true 22 v d ps) :
    ∃ l : List ByteArray, TRow W v l ∧ (∀ p ∈ ps, p.block < W.heap.size) := by
  obtain ⟨a0, len0, cap0, rfl⟩ := okWide_slice Tryz.underlying22 hv
  obtain ⟨fuel, hf⟩ := h
  have hf' : DataW.trod enc Tryz.prog W 0 (fun _ => true) true fuel 22 [.slice a0 len0 cap0] = some (d, ps) := hf
  exact open_texts hf'
end Go.Proofs.YtbmhhlkjgnijgaaGreatDoor.Lo
namespace Go.Proofs.YtbmhhlkjgnijgaaGreatDoor.Lo
open Vc Go.RowKit Go.Shelf Go.Maps Go.Sort
theorem Told.row {n0 : Nat} {W : World} {fb : Nat} {A : Nat → Prop} {B b : Nat} {S : Fs} {K L : List (List UInt8)} {v : Value} {w1 : World} (h : Told n0 W fb A B b S K L v w1) : w1.ownsRow B 9 1 v L.length (L.map encStr) := h.2.2.2.2.2.2.2
/-- The one that was chosen, and the road behind it. -/
theorem told_some {n0 : Nat} {W : World} {fb : Nat} {A : Nat → Prop} {B b : Nat} {S : Fs} {K L : List (List UInt8)} {v : Value} {w : World} {n k m : Nat} (h : Told n0 W fb A B b S K L v w) (hL : L.length = n) (hk : k < n) (hm : n - 1 = m) : ∃ (g c : Nat) (cur : Array Value) (I : ByteArray) (Q1 Q2 Q3 Q4 : World → Prop), v = .slice (some ⟨g, 0, none⟩) n c ∧ w.heap[g]? = some (.cells cur 9 (0, 0)) ∧ cur[k]? = some (.string I) ∧
    (Calls Tryz.prog 15 #[.pointer (some ⟨fb, 0, none⟩), .string I] w fun e w' => e = .returned (.int .i64 0) ∧ Q1 w') ∧
    (∀ X, Q1 X → Calls Tryz.prog 19 #[.pointer (some ⟨fb, 0, none⟩)] X fun e w' => e = .returned (.int .i64 0) ∧ Q2 w') ∧
    (∀ X, Q2 X → Calls Tryz.prog 20 #[.pointer (some ⟨fb, 0, none⟩), .int .u64 0, .int .i64 0] X fun e w' => e = .returned (.tuple #[]) ∧ Q3 w') ∧
    (∀ X, Q3 X → Calls Tryz.prog 21 #[.pointer (some ⟨fb, 0, none⟩)] X fun e w' => e = .returned (.bool true) ∧ Q4 w') ∧
    (∀ X, Q4 X → Calls Tryz.prog 14 #[.pointer (some ⟨fb, 0, none⟩), .string I] X fun e w' => e = .returned (.tuple #[.string ⟨#[]⟩, .int .i64 2]) ∧ Q4 w') ∧
    (∀ X, Q4 X → Calls Tryz.prog 13 #[.pointer (some ⟨fb, 0, none⟩)] X fun e w' => (∃ a c, e = .returned (.slice a m c)) ∧ Q4 w') ∧
    (∀ X, Q4 X → Calls Tryz.prog 15 #[.pointer (some ⟨fb, 0, none⟩), .string I] X fun e w' => e = .returned (.int .i64 2) ∧ Q4 w') ∧
    (∀ X, Q4 X → X.heap[g]? = some (.cells cur 9 (0, 0))) ∧ ∀ X, Q4 X → Below W.heap.size W X := by
  obtain ⟨id, hid⟩ : ∃ id, L[k]? = some id := ⟨_, List.getElem?_eq_getElem (by omega)⟩
  have hi : id ∈ K := h.2.2.2.2.2.2.1.mem_iff.1 (List.mem_of_getElem? hid)
  obtain ⟨Q1, Q2, Q3, Q4, k1, k2, k3, k4, k5, k6, k7, k8, k9⟩ := tail_some h hi
  obtain ⟨a, c, hv, hsr⟩ := SRow.of_row h.row []
  obtain ⟨g, cur, rfl, hBg, hg, hcm, _, hcell⟩ := hsr (by omega)
  rw [hL] at hv
  rw [hL, hm] at k6
  exact ⟨g, c, cur, Vc.bs id, Q1, Q2, Q3, Q4, hv, hg, hcell k (Vc.bs id) (Nat.zero_le _) (by rw [List.getElem?_map, hid]; rfl), k1, k2, k3, k4, k5, k6, k7, fun X hX => (k8 X hX).same g _ hg (fun hA => by have := (h.2.2.2.1 g hA).2; omega), k9⟩
theorem pick (x : Int) (n : Nat) (h0 : 0 < n) (h8 : n ≤ 8) : ∃ k : Nat, (wrap64 (x.tmod (n : Int) + (n : Int))).tmod (n : Int) = (k : Int) ∧ k < n := by
  have b1 := Int.tmod_lt_of_pos x (b := (n : Int)) (by omega)
  have b2 := Int.lt_tmod_of_pos x (b := (n : Int)) (by omega)
  have hw : wrap64 (x.tmod (n : Int) + (n : Int)) = x.tmod (n : Int) + (n : Int) := by unfold wrap64; omega
  rw [hw]
  have b3 := Int.tmod_nonneg (n : Int) (show 0 ≤ x.tmod (n : Int) + (n : Int) by omega)
  have b4 := Int.tmod_lt_of_pos (x.tmod (n : Int) + (n : Int)) (b := (n : Int)) (by omega)
  exact ⟨((x.tmod (n : Int) + (n : Int)).tmod (n : Int)).toNat, by omega, by omega⟩
set_option maxHeartbeats 3200000 in
set_option maxRecDepth 100000 in
theorem drops_law (l : List ByteArray) (lv : Value) (at' : Int) (W : World) (hk : Ob.Ok W) (hlr : TRow W lv l) :
    Calls Tryz.prog 4 #[lv, .int .i64 at'] W fun e w' => e = .returned (.bool true) ∧ Below W.heap.size W w' := by
  obtain ⟨n0, hn0⟩ : ∃ n0, W.heap.size = n0 := ⟨_, rfl⟩
  have hz : 0 < n0 := by rw [← hn0]; exact hk.max.pos
  have ho : Okn n0 W := ⟨W, hk, by omega, Below.refl _ _⟩
  obtain ⟨la, lc, rfl, hl1, hl2, hl3⟩ := hlr
  have HP0 : Hid (Calls Tryz.prog 10 #[] W fun e w' => e = .returned (.tuple #[.pointer (some ⟨n0, 0, none⟩), .bool true]) ∧ Run n0 W n0 0 w') := hideIt ((place_any ho hz (by omega)).mono fun e w' ⟨he, hm⟩ => by
    rw [hn0] at he hm
    exact ⟨he, run_start hm⟩)
  have HAW : Hid (∀ X, Run n0 W n0 0 X → Calls Tryz.prog 11 #[] X fun e w' => e = .returned (.bool true) ∧ Run n0 W n0 0 w') := hideIt (fun X hX => by
    have hb := hX.bel
    exact (awake_any (n0 := n0) (ho.step (by rw [← hn0]; exact hb)) hz (by rw [← hn0]; exact hb.size)).mono fun e w' ⟨he, hb2⟩ => ⟨he, hX.below hb2⟩)
  have HPU : Hid (∀ X i s, i < 12 → Run n0 W n0 i X → Calls Tryz.prog 12 #[.pointer (some ⟨n0, 0, none⟩), .string (Vc.bs (blobL s))] X fun e w' => e = .returned (.tuple #[.string (Vc.bs (idL (blobL s))), .int .i64 0]) ∧ Run n0 W n0 (i + 1) w') := hideIt (fun X i s hi h => h.put hi s)
  have HBL : Hid (∀ X (s : ByteArray), Calls Tryz.prog 9 #[.string s] X fun e w' => e = .returned (.string (Vc.bs (blobL s.data.toList))) ∧ Below X.heap.size X w') := hideIt (fun X s => by
    have := blob_any s.data.toList X
    rw [Vc.bs_data] at this
    exact this)
  have HLS : Hid (∀ X i, Run n0 W n0 i X → i ≤ 8 → ∃ n, n ≤ 8 ∧ Calls Tryz.prog 13 #[.pointer (some ⟨n0, 0, none⟩)] X fun e w' => ∃ A B b S K L v, L.length = n ∧ e = .returned v ∧ Told n0 W n0 A B b S K L v w') := hideIt (fun X i h hi => h.list hi)
  have HRB : Hid (∀ X i, Run n0 W n0 i X → Below W.heap.size W X) := hideIt (fun X i h => h.bel)
  have HRE : Hid (∀ X Y i, Run n0 W n0 i X → Below X.heap.size X Y → Run n0 W n0 i Y) := hideIt (fun X Y i h k => h.below k)
  obtain ⟨R, hR⟩ : ∃ R : Nat → World → Prop, R = Run n0 W n0 := ⟨_, rfl⟩
  rw [← hR] at HP0 HAW HPU HLS HRB HRE
  have HL3 := hideIt hl3
  obtain ⟨len, hlen⟩ : ∃ len, l.length = len := ⟨_, rfl⟩
  rw [hlen] at hl1 HL3 ⊢
  have HLEN := hideIt hlen
  have hlm : (len : Int) ≤ 9223372036854775807 := by have := hl2.1; unfold maxLen at this; omega
  clear hR ho hk hl3 hlen
  go_enter Tryz.func4, Tryz.ntmps4
  go_wp2_with (first | (go_at_call 10; refine HP0.out.mono ?_; rintro e w1 ⟨rfl, hr1⟩) | (go_at_call 11; refine (HAW.out _ hr1).mono ?_; rintro e w2 ⟨rfl, hr2⟩))
  have HR2 := hideIt hr2
  clear hr1 hr2
  go_loopw [7] (fun t wr => ∃ i : Nat, i ≤ 8 ∧ t = .int .i64 i ∧ R i wr) (fun t _ => 8 - (intOf t).toNat)
  case atStart => exact ⟨0, by omega, rfl, HR2.out⟩
  case round =>
    obtain ⟨i, hi, rfl, hr⟩ := hrel
    have HRI := hideIt hr
    clear HR2 hr HP0 HAW
    have cases : (i < len ∧ i < 8) ∨ (¬ i < len) ∨ (i < len ∧ ¬ i < 8) := by omega
    rcases cases with ⟨q1, q2⟩ | hx
    · have c1 : decide ((i : Int) < (len : Int)) = true := decide_eq_true (by omega)
      have c2 : decide ((i : Int) < 8) = true := decide_eq_true (by omega)
      have i1 : (i : Int) < (len : Int) := by omega
      obtain ⟨s, hs⟩ : ∃ s, l[i]? = some s := ⟨_, List.getElem?_eq_getElem (by rw [HLEN.out]; exact q1)⟩
      obtain ⟨lb, lo, rfl, hlb, hlc⟩ := HL3.out (by omega)
      have x0 : wr.cell? ⟨lb, lo + i, none⟩ = some (.string s) := by
        rw [(HRB.out wr i HRI.out).cell (p := ⟨lb, lo + i, none⟩) hlb]
        exact hlc i s hs
      have HB1 := hideIt (HBL.out wr s)
      have HP1 := hideIt (fun X (hX : Below wr.heap.size wr X) => HPU.out X i s.data.toList (by omega) (HRE.out wr X i HRI.out hX))
      generalize Vc.bs (idL (blobL s.data.toList)) = I at HP1
      generalize Vc.bs (blobL s.data.toList) = Bb at HB1 HP1
      clear hlc hs HBL HPU
      go_wp2_with (first | (go_at_call 9; refine HB1.out.mono ?_; rintro e w3 ⟨rfl, hb3⟩) | (go_at_call 12; refine (HP1.out _ hb3).mono ?_; rintro e w4 ⟨rfl, hr4⟩))
      go_roundw
      case rel => exact ⟨i + 1, by omega, by go_num, hr4⟩
      case measure => simp [intOf]; omega
    · obtain ⟨n, hn8, hLS⟩ := HLS.out wr i HRI.out hi
      have HL := hideIt hLS
      have HREF := hideIt (fun X => refid_c [] X (by decide))
      have HPN := hideIt (fun X => path_none ⟨#[110, 111, 32, 105, 100]⟩ (by decide) X)
      clear HLS hLS HBL HPU HL3 HLEN
      rcases Nat.eq_zero_or_pos n with h0 | h0
      · subst h0
        rcases hx with q | ⟨q, q'⟩
        · have c1 : decide ((i : Int) < (len : Int)) = false := decide_eq_false (by omega)
          have c2 : ¬ (i : Int) < (len : Int) := by omega
          clear q
          go_wp2_with (first 
            | (go_at_call 13; refine HL.out.mono ?_; rintro e w3 ⟨A, B, b, S, K, L, v, hL0, rfl, htold⟩; obtain ⟨Q, hq0, hQG, hQD, hQH, hQB, hQW⟩ := tail_none htold hL0; obtain ⟨a3, c4, hv, _⟩ := SRow.of_row htold.row []; rw [hL0] at hv; subst hv; have HQ0 := hideIt hq0; have HQG := hideIt hQG; have HQD := hideIt hQD; have HQH := hideIt hQH; have HQB := hideIt hQB; have HQW := hideIt hQW; clear htold hq0 hQG hQD hQH hQB hQW)
            | (go_at_call 14; refine (HQG.out _ HQ0.out).mono ?_; rintro e w4 ⟨rfl, hq4⟩)
            | (go_at_call 16; refine (HREF.out _).mono ?_; rintro e w5 ⟨rfl, hb5⟩)
            | (go_at_call 15; refine (HQD.out _ (HQB.out _ _ hq4 hb5)).mono ?_; rintro e w6 ⟨rfl, hq6⟩)
            | (go_at_call 17; refine (HPN.out _).mono ?_; rintro e wx ⟨rfl, hwx⟩; obtain rfl := hwx.symm)
            | (go_at_call 18; refine (HQH.out _ hq6).mono ?_; rintro e w7 ⟨rfl, hq7⟩))
          go_ret
          exact ⟨rfl, HQW.out _ hq7⟩
        · have c1 : decide ((i : Int) < (len : Int)) = true := decide_eq_true (by omega)
          have c2 : (i : Int) < (len : Int) := by omega
          have c3 : decide ((i : Int) < 8) = false := decide_eq_false (by omega)
          have c4 : ¬ (i : Int) < 8 := by omega
          clear q q'
          go_wp2_with (first 
            | (go_at_call 13; refine HL.out.mono ?_; rintro e w3 ⟨A, B, b, S, K, L, v, hL0, rfl, htold⟩; obtain ⟨Q, hq0, hQG, hQD, hQH, hQB, hQW⟩ := tail_none htold hL0; obtain ⟨a3, c4, hv, _⟩ := SRow.of_row htold.row []; rw [hL0] at hv; subst hv; have HQ0 := hideIt hq0; have HQG := hideIt hQG; have HQD := hideIt hQD; have HQH := hideIt hQH; have HQB := hideIt hQB; have HQW := hideIt hQW; clear htold hq0 hQG hQD hQH hQB hQW)
            | (go_at_call 14; refine (HQG.out _ HQ0.out).mono ?_; rintro e w4 ⟨rfl, hq4⟩)
            | (go_at_call 16; refine (HREF.out _).mono ?_; rintro e w5 ⟨rfl, hb5⟩)
            | (go_at_call 15; refine (HQD.out _ (HQB.out _ _ hq4 hb5)).mono ?_; rintro e w6 ⟨rfl, hq6⟩)
            | (go_at_call 17; refine (HPN.out _).mono ?_; rintro e wx ⟨rfl, hwx⟩; obtain rfl := hwx.symm)
            | (go_at_call 18; refine (HQH.out _ hq6).mono ?_; rintro e w7 ⟨rfl, hq7⟩))
          go_ret
          exact ⟨rfl, HQW.out _ hq7⟩
      · have nI : (n : Int) ≤ 8 := by omega
        have nP : (0 : Int) < (n : Int) := by omega
        have nN : ((n : Int) == 0) = false := by rw [beq_eq_false_iff_ne]; omega
        have nE : ¬ (n : Int) = 0 := by omega
        obtain ⟨k, hk, hkn⟩ := pick at' n h0 hn8
        have k0 : (0 : Int) ≤ (k : Int) := by omega
        have k1 : (k : Int) < (n : Int) := by omega
        obtain ⟨m, hm⟩ : ∃ m, n - 1 = m := ⟨_, rfl⟩
        have hm1 : (n : Int) - 1 = (m : Int) := by omega
        have HM := hideIt hm
        have HKN := hideIt hkn
        clear hm hkn
        rcases hx with q | ⟨q, q'⟩
        · have c1 : decide ((i : Int) < (len : Int)) = false := decide_eq_false (by omega)
          have c2 : ¬ (i : Int) < (len : Int) := by omega
          clear q
          go_wp2_with (first 
            | (go_at_call 13; refine (HL2.out _ hq6).mono ?_; rintro e w7 ⟨⟨a7, c7, rfl⟩, hq7⟩; have hg7 := HGX.out _ hq7; have x7 := cell_in hg7 hci; have x7f := thawAt hg7 k)
            | (go_at_call 13; refine HL.out.mono ?_; rintro e w3 ⟨A, B, b, S, K, L, v, hL0, rfl, htold⟩; obtain ⟨g, c9, cur, I, Q1, Q2, Q3, Q4, rfl, hg, hci, kD, kS, kC, kU, kG, kL, kE, kX, kW⟩ := told_some htold hL0 HKN.out HM.out; have x3 := cell_in hg hci; have x3f := thawAt hg k; have HD1 := hideIt kD; have HSE := hideIt kS; have HCR := hideIt kC; have HUP := hideIt kU; have HGE := hideIt kG; have HL2 := hideIt kL; have HD2 := hideIt kE; have HGX := hideIt kX; have HQW := hideIt kW; clear htold kD kS kC kU kG kL kE kX kW)
            | (go_at_call 15; refine (HD2.out _ hq7).mono ?_; rintro e w8 ⟨rfl, hq8⟩)
            | (go_at_call 15; refine HD1.out.mono ?_; rintro e w4 ⟨rfl, hq1⟩)
            | (go_at_call 19; refine (HSE.out _ hq1).mono ?_; rintro e w5 ⟨rfl, hq2⟩)
            | (go_at_call 20; refine (HCR.out _ hq2).mono ?_; rintro e w5 ⟨rfl, hq3⟩)
            | (go_at_call 21; refine (HUP.out _ hq3).mono ?_; rintro e w5 ⟨rfl, hq5⟩; have hg5 := HGX.out _ hq5; have x5 := cell_in hg5 hci; have x5f := thawAt hg5 k)
            | (go_at_call 14; refine (HGE.out _ hq5).mono ?_; rintro e w6 ⟨rfl, hq6⟩))
          go_ret
          exact ⟨rfl, HQW.out _ hq8⟩
        · have c1 : decide ((i : Int) < (len : Int)) = true := decide_eq_true (by omega)
          have c2 : (i : Int) < (len : Int) := by omega
          have c3 : decide ((i : Int) < 8) = false := decide_eq_false (by omega)
          have c4 : ¬ (i : Int) < 8 := by omega
          clear q q'
          go_wp2_with (first 
            | (go_at_call 13; refine (HL2.out _ hq6).mono ?_; rintro e w7 ⟨⟨a7, c7, rfl⟩, hq7⟩; have hg7 := HGX.out _ hq7; have x7 := cell_in hg7 hci; have x7f := thawAt hg7 k)
            | (go_at_call 13; refine HL.out.mono ?_; rintro e w3 ⟨A, B, b, S, K, L, v, hL0, rfl, htold⟩; obtain ⟨g, c9, cur, I, Q1, Q2, Q3, Q4, rfl, hg, hci, kD, kS, kC, kU, kG, kL, kE, kX, kW⟩ := told_some htold hL0 HKN.out HM.out; have x3 := cell_in hg hci; have x3f := thawAt hg k; have HD1 := hideIt kD; have HSE := hideIt kS; have HCR := hideIt kC; have HUP := hideIt kU; have HGE := hideIt kG; have HL2 := hideIt kL; have HD2 := hideIt kE; have HGX := hideIt kX; have HQW := hideIt kW; clear htold kD kS kC kU kG kL kE kX kW)
            | (go_at_call 15; refine (HD2.out _ hq7).mono ?_; rintro e w8 ⟨rfl, hq8⟩)
            | (go_at_call 15; refine HD1.out.mono ?_; rintro e w4 ⟨rfl, hq1⟩)
            | (go_at_call 19; refine (HSE.out _ hq1).mono ?_; rintro e w5 ⟨rfl, hq2⟩)
            | (go_at_call 20; refine (HCR.out _ hq2).mono ?_; rintro e w5 ⟨rfl, hq3⟩)
            | (go_at_call 21; refine (HUP.out _ hq3).mono ?_; rintro e w5 ⟨rfl, hq5⟩; have hg5 := HGX.out _ hq5; have x5 := cell_in hg5 hci; have x5f := thawAt hg5 k)
            | (go_at_call 14; refine (HGE.out _ hq5).mono ?_; rintro e w6 ⟨rfl, hq6⟩))
          go_ret
          exact ⟨rfl, HQW.out _ hq8⟩
end Go.Proofs.YtbmhhlkjgnijgaaGreatDoor.Lo
