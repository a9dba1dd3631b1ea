/- Objects' paths: plain facts. Objects' paths, walked. Folders made within another one, walked; Open. Open, walked: at a new one, at one that is there, without power. Get, walked. An object's file laid, walked. Put, walked; Links of a blob. The statements' own small functions, walked: blobs, a place, files; Put at a new place; its picture. One object kept at a new place: its pictures, through a fall that keeps nothing. An object is there behind a loss of power: the statements' waking test, walked. Where there is no power, or no room: the statement's road, walked. Where there is no power, or no room, it is told so: the statement's road, walked whole. -/
import Derived.Test.YtbmhhlkjgnijgaaGreatDoorVcAll2
import Derived.Test.YtbmhhlkjgnijgaaGreatDoorCbPure
import Derived.Test.YtbmhhlkjgnijgaaGreatDoorCbHexw
import Derived.Test.YtbmhhlkjgnijgaaGreatDoorCbRefh
import Derived.Test.YtbmhhlkjgnijgaaGreatDoorOo
import Derived.Deep.RegionHeld3
import Derived.Test.YtbmhhlkjgnijgaaGreatDoorLdSpd
import Derived.Test.YtbmhhlkjgnijgaaGreatDoorLdSpq
import Derived.Test.YtbmhhlkjgnijgaaGreatDoorLdPressw
import Derived.Test.YtbmhhlkjgnijgaaGreatDoorOq
import Derived.Test.YtbmhhlkjgnijgaaGreatDoorOr
import Derived.Test.YtbmhhlkjgnijgaaGreatDoorLdRefp4
import Derived.Laws.BitsLemmas
namespace Go.Proofs.YtbmhhlkjgnijgaaGreatDoor.Lo
open Vc
/-- The folder of all. -/
def objL : List UInt8 := [111, 98, 106, 101, 99, 116, 115]
def incL : List UInt8 := objL ++ 47 :: [105, 110, 99, 111, 109, 105, 110, 103]
def objP : ByteArray := Vc.bs objL
def incP : ByteArray := Vc.bs incL
/-- An id's folder, and its file. -/
def dirL (id : List UInt8) : List UInt8 := objL ++ 47 :: Cb.Cd.hexL (id.take 1)
def fileL (id : List UInt8) : List UInt8 := dirL id ++ 47 :: Cb.Cd.hexL (id.drop 1)
def dirP (id : List UInt8) : ByteArray := Vc.bs (dirL id)
def fileP (id : List UInt8) : ByteArray := Vc.bs (fileL id)
theorem dig_ok : ∀ n, n < 16 → okB (Cb.Cd.dig n) = true ∧ Cb.Cd.dig n ≠ 47 ∧ Cb.Cd.dig n ≠ 46 := by decide
theorem hex_all : ∀ l : List UInt8, (Cb.Cd.hexL l).all okB = true ∧ (47 : UInt8) ∉ Cb.Cd.hexL l ∧ (46 : UInt8) ∉ Cb.Cd.hexL l
  | [] => by simp [Cb.Cd.hexL]
  | c :: t => by
    obtain ⟨h1, h2, h3⟩ := hex_all t
    have hc : c.toNat < 256 := c.toNat_lt
    obtain ⟨a1, a2, a3⟩ := dig_ok (c.toNat / 16) (by omega)
    obtain ⟨b1, b2, b3⟩ := dig_ok (c.toNat % 16) (by omega)
    have e : Cb.Cd.hexL (c :: t) = Cb.Cd.dig (c.toNat / 16) :: Cb.Cd.dig (c.toNat % 16) :: Cb.Cd.hexL t := rfl
    rw [e]
    refine ⟨by simp only [List.all_cons, a1, b1, h1, Bool.and_self], ?_, ?_⟩
    · simp only [List.mem_cons, not_or]
      exact ⟨Ne.symm a2, Ne.symm b2, h2⟩
    · simp only [List.mem_cons, not_or]
      exact ⟨Ne.symm a3, Ne.symm b3, h3⟩
theorem okSeg_of_no {l : List UInt8} (h0 : l ≠ []) (h : (46 : UInt8) ∉ l) : okSeg l = true := by
  unfold okSeg
  rw [Bool.not_eq_true', Bool.or_eq_false_iff, Bool.or_eq_false_iff]
  refine ⟨⟨by simpa using h0, ?_⟩, ?_⟩
  · rw [beq_eq_false_iff_ne]
    intro e
    rw [e] at h
    simp at h
  · rw [beq_eq_false_iff_ne]
    intro e
    rw [e] at h
    simp at h
theorem obj_seg : objL.all okB = true ∧ (47 : UInt8) ∉ objL ∧ okSeg objL = true := by decide
theorem scan_hex (id : List UInt8) (h : id ≠ []) : scan [] (Cb.Cd.hexL id) = true := by
  obtain ⟨h1, h2, h3⟩ := hex_all id
  have h0 : Cb.Cd.hexL id ≠ [] := fun e => by
    have := Cb.Cd.hexL_len id
    rw [e] at this
    simp at this
    exact h (List.eq_nil_of_length_eq_zero (by omega))
  rw [scan_none _ [] h2, h1, List.nil_append, okSeg_of_no h0 h3]
  rfl
theorem dir_path {id : List UInt8} (h : id.length = 32) : pathL (dirL id) = true := by
  unfold pathL dirL
  rw [scan_some _ _ [] obj_seg.2.1, obj_seg.1, List.nil_append, obj_seg.2.2, scan_hex _ (fun e => by have h1 : (id.take 1).length = 0 := (by rw [e]; rfl); rw [List.length_take] at h1; omega)]
  have hl := Cb.Cd.hexL_len (id.take 1)
  simp only [Bool.and_true, decide_eq_true_eq, List.length_append, List.length_cons, hl, List.length_take]
  simp [objL]
  omega
theorem file_path {id : List UInt8} (h : id.length = 32) : pathL (fileL id) = true := by
  obtain ⟨h1, h2, h3⟩ := hex_all (id.take 1)
  have h0 : Cb.Cd.hexL (id.take 1) ≠ [] := fun e => by
    have := Cb.Cd.hexL_len (id.take 1)
    rw [e] at this
    simp at this
    omega
  have e : fileL id = objL ++ 47 :: (Cb.Cd.hexL (id.take 1) ++ 47 :: Cb.Cd.hexL (id.drop 1)) := by simp [fileL, dirL]
  unfold pathL
  rw [e, scan_some _ _ [] obj_seg.2.1, obj_seg.1, List.nil_append, obj_seg.2.2, scan_some _ _ [] h2, h1, List.nil_append, okSeg_of_no h0 h3, scan_hex _ (fun e => by have h1 : (id.drop 1).length = 0 := (by rw [e]; rfl); rw [List.length_drop] at h1; omega)]
  have hl := Cb.Cd.hexL_len (id.take 1)
  have hl2 := Cb.Cd.hexL_len (id.drop 1)
  simp only [Bool.and_true, decide_eq_true_eq, List.length_append, List.length_cons, hl, hl2, List.length_take, List.length_drop]
  simp [objL]
  omega
theorem obj_path : pathL objL = true := by decide
theorem inc_path : pathL incL = true := by decide
theorem getD_at (s : ByteArray) (j : Nat) (h : j < s.size) : s.data[j]! = (s.data.toList)[j]'(by rw [Array.length_toList]; exact h) := by
  have h' : j < s.data.size := h
  rw [Array.getElem!_eq_getD, Array.getD_eq_getD_getElem?, Array.getElem?_eq_getElem h']
  simp
/-- The folder of a path. -/
theorem dir_of (a b : List UInt8) (hb : (47 : UInt8) ∉ b) : dirOf (Vc.bs (a ++ 47 :: b)) = Vc.bs a := by
  have hsz : (Vc.bs (a ++ 47 :: b)).size = a.length + (b.length + 1) := by rw [Vc.bs_size]; simp
  have hl : (Vc.bs (a ++ 47 :: b)).data.toList = a ++ 47 :: b := Vc.bs_list _
  have hat : ∀ j (hj : j < (Vc.bs (a ++ 47 :: b)).size), (Vc.bs (a ++ 47 :: b)).data[j]! = (a ++ 47 :: b)[j]'(by simp; omega) := fun j hj => by
    rw [getD_at _ j hj]
    simp only [hl]
  have hi : Lib.lastIndexByte (Vc.bs (a ++ 47 :: b)) 47 = (a.length : Int) := by
    have h47 : ((a ++ 47 :: b)[a.length]'(by simp)) = 47 := by simp
    rcases Lib.lastIndexByte_spec (Vc.bs (a ++ 47 :: b)) 47 with ⟨_, h2⟩ | ⟨i, h1, h2, h3, h4⟩
    · have := h2 a.length (by omega)
      rw [hat a.length (by omega), h47] at this
      exact absurd rfl this
    · rw [h2]
      by_cases hlt : i < a.length
      · have := h4 a.length hlt (by omega)
        rw [hat a.length (by omega), h47] at this
        exact absurd rfl this
      · by_cases he : i = a.length
        · rw [he]
        · exfalso
          rw [hat i h1] at h3
          obtain ⟨k, rfl⟩ : ∃ k, i = a.length + (k + 1) := ⟨i - a.length - 1, by omega⟩
          have hlen : k < b.length := by omega
          have e1 : (a ++ 47 :: b)[a.length + (k + 1)]? = b[k]? := by
            rw [List.getElem?_append_right (by omega), Nat.add_sub_cancel_left, List.getElem?_cons_succ]
          rw [List.getElem?_eq_getElem (by simp; omega), List.getElem?_eq_getElem hlen] at e1
          rw [Option.some.inj e1] at h3
          have h47n : (47 : UInt8).toNat = 47 := rfl
          have : b[k]'hlen = 47 := UInt8.toNat_inj.1 (by rw [h47n]; omega)
          exact hb (this ▸ List.getElem_mem hlen)
  unfold dirOf
  rw [hi]
  have : (max (a.length : Int) 0).toNat = a.length := by omega
  rw [this, ← Vc.bs_data (ByteArray.extract _ _ _), ByteArray.data_extract, Array.toList_extract, hl]
  simp [List.extract]
theorem dir_file (id : List UInt8) : dirOf (fileP id) = dirP id := dir_of _ _ (hex_all _).2.1
theorem dir_dir (id : List UInt8) : dirOf (dirP id) = objP := dir_of _ _ (hex_all _).2.1
theorem dir_inc : dirOf incP = objP := dir_of _ _ (by decide)
theorem dir_obj : dirOf objP = ⟨#[]⟩ := by decide +kernel
theorem bsL_inj {a b : List UInt8} (h : Vc.bs a = Vc.bs b) : a = b := by
  have := congrArg (fun s => s.data.toList) h
  simpa [Vc.bs_list] using this
theorem hex_inj {a b : List UInt8} (h : Cb.Cd.hexL a = Cb.Cd.hexL b) : a = b := by
  have h1 := Cb.Cd.unhex_hex a
  rw [h, Cb.Cd.unhex_hex b] at h1
  simpa using h1.symm
theorem file_inj {a b : List UInt8} (ha : a.length = 32) (hb : b.length = 32) (h : fileP a = fileP b) : a = b := by
  have h1 := bsL_inj h
  unfold fileL dirL at h1
  have e1 := Cb.Cd.hexL_len (a.take 1)
  have e2 := Cb.Cd.hexL_len (b.take 1)
  simp only [List.append_assoc, List.cons_append, List.append_cancel_left_eq, List.cons.injEq, true_and] at h1
  obtain ⟨h2, h3⟩ := List.append_inj h1 (by rw [e1, e2]; simp [ha, hb])
  simp only [List.cons.injEq, true_and] at h3
  rw [← List.take_append_drop 1 a, ← List.take_append_drop 1 b, hex_inj h2, hex_inj h3]
theorem file_len {id : List UInt8} (h : id.length = 32) : (fileL id).length = 73 := by
  have hl := Cb.Cd.hexL_len (id.take 1)
  have hl2 := Cb.Cd.hexL_len (id.drop 1)
  simp only [fileL, dirL, List.length_append, List.length_cons, hl, hl2, List.length_take, List.length_drop]
  simp [objL]
  omega
theorem dir_len {id : List UInt8} (h : id.length = 32) : (dirL id).length = 10 := by
  have hl := Cb.Cd.hexL_len (id.take 1)
  simp only [dirL, List.length_append, List.length_cons, hl, List.length_take]
  simp [objL]
  omega
theorem ne_len {a b : List UInt8} (h : a.length ≠ b.length) : Vc.bs a ≠ Vc.bs b := fun e => h (by rw [bsL_inj e])
end Go.Proofs.YtbmhhlkjgnijgaaGreatDoor.Lo
namespace Go.Proofs.YtbmhhlkjgnijgaaGreatDoor.Lo
open Vc Go.RowKit Go.Shelf
/-- What is laid ahead of all, and is not touched. -/
def Okn (n0 : Nat) (w : World) : Prop := ∃ W : World, Ob.Ok W ∧ W.heap.size ≤ n0 ∧ Below W.heap.size W w
theorem Okn.ok {n0 : Nat} {w : World} (h : Okn n0 w) : Ob.Ok w := by
  obtain ⟨W, h1, _, h3⟩ := h
  exact h1.below h3
theorem Okn.step {n0 : Nat} {w w' : World} (h : Okn n0 w) (hb : Below n0 w w') : Okn n0 w' := by
  obtain ⟨W, h1, h2, h3⟩ := h
  exact ⟨W, h1, h2, h3.trans (hb.mono h2)⟩
theorem cat_bs (a b : List UInt8) : Vc.bs a ++ Vc.bs b = Vc.bs (a ++ b) := by
  rw [← Vc.bs_data (Vc.bs a ++ Vc.bs b), ByteArray.data_append, Array.toList_append, Vc.bs_list, Vc.bs_list]
theorem hex_c (l : List UInt8) (hl : l.length ≤ 400) (w : World) : Calls Tryz.prog 40 #[.string (Vc.bs l)] w fun e w' => e = .returned (.string (Vc.bs (Cb.Cd.hexL l))) ∧ Below w.heap.size w w' := by
  have := Cb.hex_any (Vc.bs l) w (by rw [Vc.bs_size]; exact hl)
  rw [Vc.bs_list] at this
  exact this
theorem ext_bs (l : List UInt8) (a b : Nat) : (Vc.bs l).extract a b = Vc.bs (l.extract a b) := by
  rw [← Vc.bs_data (ByteArray.extract _ _ _), ByteArray.data_extract, Array.toList_extract, Vc.bs_list]
set_option maxHeartbeats 800000 in
set_option maxRecDepth 100000 in
theorem folder_any (id : List UInt8) (h : id.length = 32) (w : World) : Calls Tryz.prog 39 #[.string (Vc.bs id)] w fun e w' => e = .returned (.string (dirP id)) ∧ Below w.heap.size w w' := by
  have e1 : (Vc.bs id).extract 0 1 = Vc.bs (id.take 1) := by rw [ext_bs]; simp [List.extract]
  have HX := hideIt (hex_c (id.take 1) (by simp; omega) w)
  have HE : Hid (dirP id = ⟨#[111, 98, 106, 101, 99, 116, 115, 47]⟩ ++ Vc.bs (Cb.Cd.hexL (id.take 1))) := hideIt (by
    show Vc.bs _ = Vc.bs [111, 98, 106, 101, 99, 116, 115, 47] ++ _
    rw [cat_bs]
    rfl)
  have hs : (Vc.bs id).size = 32 := by rw [Vc.bs_size, h]
  have hs2 : ((Vc.bs id).size : Int) = 32 := by omega
  have hl : (Cb.Cd.hexL (id.take 1)).length = 2 := by rw [Cb.Cd.hexL_len]; simp; omega
  have hl2 : (Vc.bs (Cb.Cd.hexL (id.take 1))).size = 2 := by rw [Vc.bs_size, hl]
  rw [HE.out]
  go_enter Tryz.func39, Tryz.ntmps39
  go_wp2_with (first | (go_at_call 40; refine HX.out.mono ?_; rintro e w1 ⟨rfl, hb1⟩))
  go_ret
  exact ⟨rfl, hb1⟩
set_option maxHeartbeats 800000 in
set_option maxRecDepth 100000 in
theorem path_any (id : List UInt8) (h : id.length = 32) (w : World) : Calls Tryz.prog 17 #[.string (Vc.bs id)] w fun e w' => e = .returned (.string (fileP id)) ∧ Below w.heap.size w w' := by
  have hs : (Vc.bs id).size = 32 := by rw [Vc.bs_size, h]
  have hs2 : ((Vc.bs id).size : Int) = 32 := by omega
  have e1 : (Vc.bs id).extract 1 32 = Vc.bs (id.drop 1) := by rw [ext_bs]; simp [List.extract]; rw [List.take_of_length_le (by simp; omega)]
  have HX := hideIt (fun w => hex_c (id.drop 1) (by simp; omega) w)
  have HD := hideIt (fun w => folder_any id h w)
  have HE : Hid (fileP id = dirP id ++ ⟨#[47]⟩ ++ Vc.bs (Cb.Cd.hexL (id.drop 1))) := hideIt (by
    show Vc.bs _ = Vc.bs (dirL id) ++ Vc.bs [47] ++ _
    rw [cat_bs, cat_bs]
    simp [fileL])
  have hl : (Cb.Cd.hexL (id.drop 1)).length = 62 := by rw [Cb.Cd.hexL_len]; simp; omega
  have hl2 : (Vc.bs (Cb.Cd.hexL (id.drop 1))).size = 62 := by rw [Vc.bs_size, hl]
  have hl3 : (dirP id).size = 10 := by rw [dirP, Vc.bs_size, dir_len h]
  rw [HE.out]
  obtain ⟨I, hI⟩ : ∃ I, Vc.bs id = I := ⟨_, rfl⟩
  obtain ⟨T, hT⟩ : ∃ T, Vc.bs (id.drop 1) = T := ⟨_, rfl⟩
  obtain ⟨d, hd⟩ : ∃ d, dirP id = d := ⟨_, rfl⟩
  obtain ⟨x, hx⟩ : ∃ x, Vc.bs (Cb.Cd.hexL (id.drop 1)) = x := ⟨_, rfl⟩
  rw [hI] at hs hs2 e1 HD ⊢
  rw [hT] at e1 HX
  rw [hd] at HD hl3 ⊢
  rw [hx] at HX hl2 ⊢
  clear hI hT hd hx HE hl h
  have HB0 : Hid (Below w.heap.size w w.drew) := hideIt (Below.refl _ _).drew
  go_enter Tryz.func17, Tryz.ntmps17
  go_wp2
  go_region_held3 (fun X => Below w.heap.size w X) (first | exact HB0.out | assumption | (exact Ob.below2 (by assumption) hb1) | (exact Ob.below2 (by assumption) hb2)) (first | (go_at_call 39; refine (HD.out _).mono ?_; rintro e w1 ⟨rfl, hb1⟩) | (go_at_call 40; refine (HX.out _).mono ?_; rintro e w2 ⟨rfl, hb2⟩))
  go_wp2
  go_ret
  exact ⟨rfl, by assumption⟩
set_option maxHeartbeats 800000 in
set_option maxRecDepth 100000 in
theorem path_none (id : ByteArray) (h : id.size ≠ 32) (w : World) : Calls Tryz.prog 17 #[.string id] w fun e w' => e = .returned (.string ⟨#[]⟩) ∧ w' = w := by
  have e1 : ((id.size : Int) == 32) = false := by rw [beq_eq_false_iff_ne]; omega
  have e2 : ¬ (id.size : Int) = 32 := by omega
  have e3 : ((id.size : Int) != 32) = true := by rw [bne, e1]; rfl
  go_enter Tryz.func17, Tryz.ntmps17
  go_wp2
  go_ret
  exact ⟨rfl, rfl⟩
/-- The state of a walk: the picture, what is laid ahead, and how all came to be. -/
structure St (pl : Value) (n0 : Nat) (A : Nat → Prop) (b : Nat) (w : World) (fb : Nat) (S : Fs) : Prop where
  rep : Rep pl n0 A b w fb S
  ok : Okn n0 w
def StTo (pl : Value) (n0 : Nat) (A : Nat → Prop) (b : Nat) (w : World) (fb : Nat) (S : Fs) (w' : World) : Prop := ∃ A2 : Nat → Prop, (∀ g, A2 g → A g ∨ w.heap.size ≤ g) ∧ St pl n0 A2 b w' fb S ∧ Out A w w'
section
variable {pl : Value} {n0 : Nat} {A A2 : Nat → Prop} {b b' : Nat} {w w' w1 : World} {fb : Nat} {S S' : Fs}
theorem St.to (h : St pl n0 A b w fb S) (hr : RepTo pl n0 A b' w fb S' w') : StTo pl n0 A b' w fb S' w' := by
  obtain ⟨A3, h1, h2, h3⟩ := hr
  exact ⟨A3, h1, ⟨h2, h.ok.step (h3.below h.rep.nw h.rep.lo)⟩, h3⟩
theorem St.kept (h : St pl n0 A b w fb S) (hk : Kept [] w w') : St pl n0 A b w' fb S := ⟨h.rep.keep hk, h.ok.step ((Out.kept (A := A) hk).below h.rep.nw h.rep.lo)⟩
theorem StTo.step (hA : ∀ g, A2 g → A g ∨ w.heap.size ≤ g) (hO : Out A w w1) (k : StTo pl n0 A2 b w1 fb S w') : StTo pl n0 A b w fb S w' := by
  obtain ⟨A3, k1, k2, k3⟩ := k
  refine ⟨A3, fun g hg => ?_, k2, hO.trans k3 hA⟩
  rcases k1 g hg with e | e
  · exact hA g e
  · exact .inr (Nat.le_trans hO.size e)
theorem StTo.kept (h : St pl n0 A b w fb S) (hk : Kept [] w w') : StTo pl n0 A b w fb S w' := ⟨A, fun _ hg => .inl hg, h.kept hk, Out.kept hk⟩
theorem Kept.bel {w w' : World} (h : Below w.heap.size w w') : Kept [] w w' := Kept.of_below h
end
end Go.Proofs.YtbmhhlkjgnijgaaGreatDoor.Lo
namespace Go.Proofs.YtbmhhlkjgnijgaaGreatDoor.Lo
open Vc Go.RowKit Go.Shelf
abbrev P0 : Value := .slice none 0 0
section
variable {n0 : Nat} {A : Nat → Prop} {b : Nat} {w w' : World} {fb : Nat} {S : Fs}
set_option maxHeartbeats 800000 in
set_option maxRecDepth 100000 in
/-- The folder is there. -/
theorem mf_there (h : St P0 n0 A b w fb S) (q p : ByteArray) (hp : p.size ≤ 140737488355328) (hE : S.syE p = 31) :
    Calls Tryz.prog 50 #[.pointer (some ⟨fb, 0, none⟩), .string q, .string p] w fun e w' => e = .returned (.int .i64 0) ∧ Kept [] w w' := by
  have HR : Hid (Calls Tryz.prog 35 #[.pointer (some ⟨fb, 0, none⟩), .string p] w fun e w' => e = .returned (.tuple #[.string ⟨#[]⟩, .int .i64 31]) ∧ Kept [] w w') := hideIt ((read_rep h.rep (calm_nil _ _) p hp).mono fun e w' ⟨hk, hr⟩ => by
    rcases hr with ⟨_, he⟩ | ⟨h0, _⟩
    · rw [hE] at he; exact ⟨he, hk⟩
    · rw [hE] at h0; cases h0)
  clear h hE
  go_enter Tryz.func50, Tryz.ntmps50
  go_wp2_with (first | (go_at_call 35; refine HR.out.mono ?_; rintro e w1 ⟨rfl, hk1⟩))
  go_ret
  exact ⟨rfl, hk1⟩
set_option maxHeartbeats 800000 in
set_option maxRecDepth 100000 in
/-- The folder is made, for sure. -/
theorem mf_made (h : St P0 n0 A b w fb S) (hb : b < 890) (q p : ByteArray) (hq : q.size ≤ 140737488355328) (hp : p.size ≤ 140737488355328) (hE : S.syE p ≠ 31) (hE0 : S.syE p ≠ 0) (hM : S.mkE p = 0) (hN : (S.enact ⟨0, p, ⟨#[]⟩, none⟩).nfE q = 0) :
    Calls Tryz.prog 50 #[.pointer (some ⟨fb, 0, none⟩), .string q, .string p] w fun e w' => e = .returned (.int .i64 0) ∧ StTo P0 n0 A (b + 2) w fb ((S.enact ⟨0, p, ⟨#[]⟩, none⟩).syncDir q) w' := by
  obtain ⟨E, hEE⟩ : ∃ E, S.syE p = E := ⟨_, rfl⟩
  rw [hEE] at hE hE0
  have x1 : (E == 31) = false := by rw [beq_eq_false_iff_ne]; exact hE
  have HR : Hid (Calls Tryz.prog 35 #[.pointer (some ⟨fb, 0, none⟩), .string p] w fun e w' => e = .returned (.tuple #[.string ⟨#[]⟩, .int .i64 E]) ∧ St P0 n0 A b w' fb S ∧ Out A w w') := hideIt ((read_rep h.rep (calm_nil _ _) p hp).mono fun e w' ⟨hk, hr⟩ => by
    rcases hr with ⟨_, he⟩ | ⟨h0, _⟩
    · rw [hEE] at he; exact ⟨he, h.kept hk, Out.kept hk⟩
    · rw [hEE] at h0; exact absurd h0 hE0)
  have HM : Hid (∀ X, St P0 n0 A b X fb S → Out A w X → Calls Tryz.prog 99 #[.pointer (some ⟨fb, 0, none⟩), .string p] X fun e w' => e = .returned (.int .i64 0) ∧ StTo P0 n0 A (b + 1) w fb (S.enact ⟨0, p, ⟨#[]⟩, none⟩) w') := hideIt (fun X hX hO => (mkdir_rep hX.rep (by omega) (calm_nil _ _) p hp).mono fun e w' ⟨he, hr⟩ => by
    rw [hM] at he
    rcases hr with ⟨h0, _⟩ | ⟨_, S', rfl, hR⟩
    · exact absurd hM h0
    · exact ⟨he, StTo.step (fun _ hg => .inl hg) hO (hX.to hR)⟩)
  have HS : Hid (∀ X, StTo P0 n0 A (b + 1) w fb (S.enact ⟨0, p, ⟨#[]⟩, none⟩) X → Calls Tryz.prog 41 #[.pointer (some ⟨fb, 0, none⟩), .string q] X fun e w' => e = .returned (.int .i64 0) ∧ StTo P0 n0 A (b + 2) w fb ((S.enact ⟨0, p, ⟨#[]⟩, none⟩).syncDir q) w') := hideIt (fun X ⟨A2, k1, k2, k3⟩ => (syncDir_rep k2.rep (by omega) (calm_nil _ _) q hq).mono fun e w' ⟨he, hr⟩ => by
    rw [hN] at he
    rcases hr with ⟨h0, _⟩ | ⟨_, S', rfl, hR⟩
    · exact absurd hN h0
    · exact ⟨he, StTo.step k1 k3 (k2.to hR)⟩)
  clear h hE hE0 hM hN hEE
  go_enter Tryz.func50, Tryz.ntmps50
  go_wp2_with (first | (go_at_call 35; refine HR.out.mono ?_; rintro e w1 ⟨rfl, hs1, ho1⟩) | (go_at_call 99; refine (HM.out _ hs1 ho1).mono ?_; rintro e w2 ⟨rfl, hs2⟩) | (go_at_call 41; refine (HS.out _ hs2).mono ?_; rintro e w3 ⟨rfl, hs3⟩))
  go_ret
  exact ⟨rfl, hs3⟩
end
end Go.Proofs.YtbmhhlkjgnijgaaGreatDoor.Lo
namespace Go.Proofs.YtbmhhlkjgnijgaaGreatDoor.Lo
open Vc Go.RowKit Go.Shelf
/-- Names of the folder of all alone. -/
def baseN : Nm := fun q => if q = objP then some none else none
def baseS (room : Nat) : Fs := ⟨baseN, baseN, [], fun _ => ⟨⟨#[]⟩, ⟨#[]⟩⟩, 0, 0, room, 3⟩
theorem objP_size : objP.size = 7 := by decide +kernel
theorem incP_size : incP.size = 16 := by decide +kernel
theorem obj_ne_inc : objP ≠ incP := ne_len (by decide)
theorem doN_comes {n : Nm} {p : ByteArray} {f : Option Nat} {t : ByteArray} (h1 : n p = none) (h2 : isDir n (dirOf p) = true) : doN n ⟨0, p, t, f⟩ = fun q => if q = p then some f else n q := by
  unfold doN
  rw [if_pos rfl, if_pos ⟨h1, h2⟩]
theorem isDir_root (n : Nm) : isDir n ⟨#[]⟩ = true := rfl
theorem do_obj : doN (fun _ => none) ⟨0, objP, ⟨#[]⟩, none⟩ = baseN := by
  rw [doN_comes rfl (by rw [dir_obj]; rfl)]
  rfl
theorem in_obj_root : inP ⟨#[]⟩ ⟨0, objP, ⟨#[]⟩, none⟩ = true := by
  unfold inP inB
  rw [show dirOf (⟨0, objP, ⟨#[]⟩, none⟩ : Pa).p = ⟨#[]⟩ from dir_obj]
  simp
theorem open1 (room : Nat) : ((noFs room).enact ⟨0, objP, ⟨#[]⟩, none⟩).syncDir ⟨#[]⟩ = ⟨baseN, baseN, [], fun _ => ⟨⟨#[]⟩, ⟨#[]⟩⟩, 0, 0, room, 2⟩ := by
  unfold Fs.syncDir Fs.enact
  simp only [noFs, List.nil_append, do_obj]
  simp [in_obj_root, do_obj]
theorem open2 (room : Nat) : (⟨baseN, baseN, [], fun _ => ⟨⟨#[]⟩, ⟨#[]⟩⟩, 0, 0, room, 2⟩ : Fs).syncDir objP = baseS room := rfl
theorem toL_eq (a b : ByteArray) : (a.toList == b.toList) = decide (a = b) := by
  by_cases h : a = b
  · subst h; simp
  · rw [decide_eq_false h, beq_eq_false_iff_ne]
    intro e
    rw [ByteArray.toList_eq, ByteArray.toList_eq] at e
    exact h (ba_eq.2 e)
section
variable {n0 : Nat} {A : Nat → Prop} {b : Nat} {w w' : World} {fb room : Nat} {S : Fs}
theorem nf_of {q : ByteArray} (hq : pathL q.data.toList = true) (hd : S.now q = some none) : S.nfE q = 0 := by
  unfold Fs.nfE
  split
  · rfl
  · have : isDir S.now q = true := by unfold isDir; rw [hd]; simp
    rw [this]
    rfl
theorem nf_root : S.nfE ⟨#[]⟩ = 0 := rfl
theorem sy_dir {q : ByteArray} (hq : pathL q.data.toList = true) (hd : S.now q = some none) : S.syE q = 31 := by
  unfold Fs.syE pvN
  rw [if_pos hq, hd]
  rfl
theorem sy_none {q : ByteArray} (hq : pathL q.data.toList = true) (hd : S.now q = none) : S.syE q = 2 := by
  unfold Fs.syE
  rw [if_pos hq, hd]
  rfl
theorem rm_none {q : ByteArray} (hq : pathL q.data.toList = true) (hd : S.now q = none) : S.rmE q = 2 := by
  unfold Fs.rmE
  rw [if_pos hq, hd]
  rfl
theorem objP_path : pathL objP.data.toList = true := by rw [objP, Vc.bs_list]; exact obj_path
theorem incP_path : pathL incP.data.toList = true := by rw [incP, Vc.bs_list]; exact inc_path
set_option maxHeartbeats 800000 in
set_option maxRecDepth 100000 in
theorem mf_fresh (h : NewAt w fb room) (ho : Okn n0 w) (hr : room ≤ 1000000000000000) (hn : 0 < n0) (hf0 : n0 ≤ fb) :
    Calls Tryz.prog 50 #[.pointer (some ⟨fb, 0, none⟩), .string ⟨#[]⟩, .string objP] w fun e w' => e = .returned (.int .i64 0) ∧ StTo P0 n0 (fun g => g = fb) 2 w fb ⟨baseN, baseN, [], fun _ => ⟨⟨#[]⟩, ⟨#[]⟩⟩, 0, 0, room, 2⟩ w' := by
  have hlt := block_lt h
  have hsz : objP.size ≤ 140737488355328 := by rw [objP_size]; decide
  have HR : Hid (Calls Tryz.prog 35 #[.pointer (some ⟨fb, 0, none⟩), .string objP] w fun e w' => e = .returned (.tuple #[.string ⟨#[]⟩, .int .i64 2]) ∧ Kept [] w w') := hideIt (read_fresh h ho.ok.max objP hsz objP_path)
  have HM : Hid (∀ X, Kept [] w X → Calls Tryz.prog 99 #[.pointer (some ⟨fb, 0, none⟩), .string objP] X fun e w' => e = .returned (.int .i64 0) ∧ StTo P0 n0 (fun g => g = fb) 1 w fb ((noFs room).enact ⟨0, objP, ⟨#[]⟩, none⟩) w') := hideIt (fun X hX => by
    have hb : Below n0 w X := (Out.kept (A := fun g => g = fb) hX).below (by omega) (fun g hg => by omega)
    have ho' := ho.step hb
    refine (mkdir_fresh (n0 := n0) (hX.fs h (by simp)) ho'.ok.max hr hn hf0 objP hsz objP_path (by rw [dir_obj])).mono fun e w' ⟨he, A2, k1, k2, k3⟩ => ⟨he, ?_⟩
    have h1 := hX.size
    exact StTo.step (A2 := fun g => g = fb) (fun g hg => .inl hg) (Out.kept hX) ⟨A2, k1, ⟨k2, ho'.step (k3.below (by omega) (fun g hg => by omega))⟩, k3⟩)
  have HS : Hid (∀ X, StTo P0 n0 (fun g => g = fb) 1 w fb ((noFs room).enact ⟨0, objP, ⟨#[]⟩, none⟩) X → Calls Tryz.prog 41 #[.pointer (some ⟨fb, 0, none⟩), .string ⟨#[]⟩] X fun e w' => e = .returned (.int .i64 0) ∧ StTo P0 n0 (fun g => g = fb) 2 w fb ⟨baseN, baseN, [], fun _ => ⟨⟨#[]⟩, ⟨#[]⟩⟩, 0, 0, room, 2⟩ w') := hideIt (fun X ⟨A2, k1, k2, k3⟩ => (syncDir_rep k2.rep (by omega) (calm_nil _ _) ⟨#[]⟩ (by decide)).mono fun e w' ⟨he, hr⟩ => by
    rw [nf_root] at he
    rcases hr with ⟨h0, _⟩ | ⟨_, S', rfl, hR⟩
    · exact absurd nf_root h0
    · rw [open1] at hR
      exact ⟨he, StTo.step k1 k3 (k2.to hR)⟩)
  clear h ho
  generalize objP = op at HR HM HS ⊢
  go_enter Tryz.func50, Tryz.ntmps50
  go_wp2_with (first | (go_at_call 35; refine HR.out.mono ?_; rintro e w1 ⟨rfl, hs1⟩) | (go_at_call 99; refine (HM.out _ hs1).mono ?_; rintro e w2 ⟨rfl, hs2⟩) | (go_at_call 41; refine (HS.out _ hs2).mono ?_; rintro e w3 ⟨rfl, hs3⟩))
  go_ret
  exact ⟨rfl, hs3⟩
/-- What comes behind the folder: nothing is coming in. -/
theorem open_tail (h : St P0 n0 A b w fb S) (hb : b < 890) (hobj : S.now objP = some none) (hinc : S.now incP = none) :
    (Calls Tryz.prog 37 #[.pointer (some ⟨fb, 0, none⟩), .string incP] w fun e w' => e = .returned (.int .i64 2) ∧ Kept [] w w') ∧
    ∀ X, Kept [] w X → Calls Tryz.prog 41 #[.pointer (some ⟨fb, 0, none⟩), .string objP] X fun e w' => e = .returned (.int .i64 0) ∧ StTo P0 n0 A (b + 1) w fb (S.syncDir objP) w' := by
  have e2 := rm_none incP_path hinc
  have e0 : S.nfE objP = 0 := nf_of objP_path hobj
  refine ⟨(remove_rep h.rep (by omega) (calm_nil _ _) incP (by rw [incP_size]; decide)).mono fun e w' ⟨he, hr⟩ => ?_, fun X hX => (syncDir_rep (h.kept hX).rep (by omega) (calm_nil _ _) objP (by rw [objP_size]; decide)).mono fun e w' ⟨he, hr⟩ => ?_⟩
  · rw [e2] at he
    rcases hr with ⟨_, hk⟩ | ⟨h0, _⟩
    · exact ⟨he, hk⟩
    · rw [e2] at h0; cases h0
  · rw [e0] at he
    rcases hr with ⟨h0, _⟩ | ⟨_, S', rfl, hR⟩
    · exact absurd e0 h0
    · exact ⟨he, StTo.step (fun _ hg => .inl hg) (Out.kept hX) ((h.kept hX).to hR)⟩
set_option maxHeartbeats 800000 in
set_option maxRecDepth 100000 in
theorem open_fresh (h : NewAt w fb room) (ho : Okn n0 w) (hr : room ≤ 1000000000000000) (hn : 0 < n0) (hf0 : n0 ≤ fb) :
    Calls Tryz.prog 23 #[.pointer (some ⟨fb, 0, none⟩)] w fun e w' => e = .returned (.int .i64 0) ∧ StTo P0 n0 (fun g => g = fb) 3 w fb (baseS room) w' := by
  have HM := hideIt (mf_fresh h ho hr hn hf0)
  have HT : Hid (∀ X, StTo P0 n0 (fun g => g = fb) 2 w fb ⟨baseN, baseN, [], fun _ => ⟨⟨#[]⟩, ⟨#[]⟩⟩, 0, 0, room, 2⟩ X → (Calls Tryz.prog 37 #[.pointer (some ⟨fb, 0, none⟩), .string incP] X fun e w' => e = .returned (.int .i64 2) ∧ Kept [] X w') ∧
    ∀ Y, Kept [] X Y → Calls Tryz.prog 41 #[.pointer (some ⟨fb, 0, none⟩), .string objP] Y fun e w' => e = .returned (.int .i64 0) ∧ StTo P0 n0 (fun g => g = fb) 3 w fb (baseS room) w') := hideIt (fun X ⟨A2, k1, k2, k3⟩ => by
    obtain ⟨t1, t2⟩ := open_tail k2 (by omega) (show baseN objP = some none by simp [baseN]) (show baseN incP = none by simp [baseN, Ne.symm obj_ne_inc])
    exact ⟨t1, fun Y hY => (t2 Y hY).mono fun e w' ⟨he, hs⟩ => ⟨he, StTo.step k1 k3 hs⟩⟩)
  clear h ho
  have ei : (⟨#[111, 98, 106, 101, 99, 116, 115, 47, 105, 110, 99, 111, 109, 105, 110, 103]⟩ : ByteArray) = incP := by decide +kernel
  have eo : (⟨#[111, 98, 106, 101, 99, 116, 115]⟩ : ByteArray) = objP := by decide +kernel
  generalize incP = ip at HT ei
  generalize objP = op at HM HT eo
  subst ei eo
  go_enter Tryz.func23, Tryz.ntmps23
  go_wp2_with (first | (go_at_call 50; refine HM.out.mono ?_; rintro e w1 ⟨rfl, hs1⟩; obtain ⟨t1, t2⟩ := HT.out w1 hs1; have T1 := hideIt t1; have T2 := hideIt t2; clear t1 t2) | (go_at_call 37; refine T1.out.mono ?_; rintro e w2 ⟨rfl, hk2⟩) | (go_at_call 41; refine (T2.out _ hk2).mono ?_; rintro e w3 ⟨rfl, hs3⟩))
  go_ret
  exact ⟨rfl, hs3⟩
set_option maxHeartbeats 800000 in
set_option maxRecDepth 100000 in
theorem open_there (h : St P0 n0 A b w fb S) (hb : b < 880) (hobj : S.now objP = some none) (hinc : S.now incP = none) :
    Calls Tryz.prog 23 #[.pointer (some ⟨fb, 0, none⟩)] w fun e w' => e = .returned (.int .i64 0) ∧ StTo P0 n0 A (b + 1) w fb (S.syncDir objP) w' := by
  have HM := hideIt (mf_there h ⟨#[]⟩ objP (by rw [objP_size]; decide) (sy_dir objP_path hobj))
  have HT : Hid (∀ X, Kept [] w X → (Calls Tryz.prog 37 #[.pointer (some ⟨fb, 0, none⟩), .string incP] X fun e w' => e = .returned (.int .i64 2) ∧ Kept [] X w') ∧
    ∀ Y, Kept [] X Y → Calls Tryz.prog 41 #[.pointer (some ⟨fb, 0, none⟩), .string objP] Y fun e w' => e = .returned (.int .i64 0) ∧ StTo P0 n0 A (b + 1) w fb (S.syncDir objP) w') := hideIt (fun X hX => by
    obtain ⟨t1, t2⟩ := open_tail (h.kept hX) (by omega) hobj hinc
    exact ⟨t1, fun Y hY => (t2 Y hY).mono fun e w' ⟨he, hs⟩ => ⟨he, StTo.step (fun _ hg => .inl hg) (Out.kept hX) hs⟩⟩)
  clear h hobj hinc
  have ei : (⟨#[111, 98, 106, 101, 99, 116, 115, 47, 105, 110, 99, 111, 109, 105, 110, 103]⟩ : ByteArray) = incP := by decide +kernel
  have eo : (⟨#[111, 98, 106, 101, 99, 116, 115]⟩ : ByteArray) = objP := by decide +kernel
  generalize S.syncDir objP = S2 at HT ⊢
  generalize incP = ip at HT ei
  generalize objP = op at HM HT eo
  subst ei eo
  go_enter Tryz.func23, Tryz.ntmps23
  go_wp2_with (first | (go_at_call 50; refine HM.out.mono ?_; rintro e w1 ⟨rfl, hs1⟩; obtain ⟨t1, t2⟩ := HT.out w1 hs1; have T1 := hideIt t1; have T2 := hideIt t2; clear t1 t2) | (go_at_call 37; refine T1.out.mono ?_; rintro e w2 ⟨rfl, hk2⟩) | (go_at_call 41; refine (T2.out _ hk2).mono ?_; rintro e w3 ⟨rfl, hs3⟩))
  go_ret
  exact ⟨rfl, hs3⟩
end
end Go.Proofs.YtbmhhlkjgnijgaaGreatDoor.Lo
namespace Go.Proofs.YtbmhhlkjgnijgaaGreatDoor.Lo
open Vc Go.RowKit Go.Shelf
theorem fin_len {n : Nat} {T L : List UInt8} (h : T.length ≤ n) : (Ld.Lz.fin T L).2.length ≤ n := by
  unfold Ld.Lz.fin
  split
  · exact h
  · exact Nat.zero_le _
theorem spF_len (n : Nat) : ∀ (f : Nat) (T L : List UInt8), T.length ≤ n → (Ld.Lz.spF Ld.Lz.aga n f T L).2.length ≤ n
  | 0, _, _, _ => Nat.zero_le _
  | f + 1, T, L, h => by
    rw [Ld.Lz.spF]
    split
    · rename_i hlt
      split
      · exact Nat.zero_le _
      · rename_i h1
        have h1' : (Ld.Lz.alo (n - T.length) T L).1 = 0 := by simpa using h1
        have ha := Ld.Lz.alo_len h1'
        split
        · rename_i h2
          exact fin_len (by omega)
        · split
          · exact Nat.zero_le _
          · rename_i h3
            have h3' : (Ld.Lz.aga (n - (Ld.Lz.alo (n - T.length) T L).2.1.length) (Ld.Lz.alo (n - T.length) T L).2.1 (Ld.Lz.alo (n - T.length) T L).2.2).1 = 0 := by simpa using h3
            have hg := Ld.Lz.aga_len h3'
            exact spF_len n f _ _ (by omega)
    · exact fin_len h
theorem sp_len (p : List UInt8) : (Ld.Lz.spP p 1048576).2.length ≤ 1048576 := by
  unfold Ld.Lz.spP Ld.Lz.spA
  split
  · exact Nat.zero_le _
  · rename_i h1
    split
    · exact Nat.zero_le _
    · rename_i h2
      exact Nat.le_trans (spF_len _ _ _ _ (Nat.zero_le _)) (by omega)
theorem spread_c (p : ByteArray) (w : World) (hp : p.size ≤ 100000000) : Calls Tryz.prog 36 #[.string p, .int .i64 1048576] w fun e w' => e = .returned (.tuple #[.string (Vc.bs (Ld.Lz.spP p.data.toList 1048576).2), .int .i64 ((Ld.Lz.spP p.data.toList 1048576).1 : Int)]) ∧ Below w.heap.size w w' := by
  have := Ld.spread_gen p.data.toList 1048576 w (by rw [Vc.str_len]; exact hp)
  rw [show Cb.bs p.data.toList = p from Vc.bs_data p] at this
  exact this
/-- What bytes tell of an id: its object, or nothing. -/
def getR (p : ByteArray) (id : List UInt8) : Option (List UInt8) := if (Ld.Lz.spP p.data.toList 1048576).1 = 0 ∧ (Sa.Sha.sha (Ld.Lz.spP p.data.toList 1048576).2) = Vc.bs id then some (Ld.Lz.spP p.data.toList 1048576).2 else none
def getV : Option (List UInt8) → Value
  | some r => .tuple #[.string (Vc.bs r), .int .i64 0]
  | none => .tuple #[.string ⟨#[]⟩, .int .i64 80]
theorem kept_below {w w1 w2 : World} (h : Kept [] w w1) (k : Below w1.heap.size w1 w2) : Kept [] w w2 := (h.trans (Kept.of_below k)).sub (by simp)
theorem below_kept {w w1 w2 : World} (h : Below w.heap.size w w1) (k : Kept [] w1 w2) : Kept [] w w2 := ((Kept.of_below h).trans k).sub (by simp)
theorem fileP_size {id : List UInt8} (h : id.length = 32) : (fileP id).size = 73 := by rw [fileP, Vc.bs_size, file_len h]
theorem fileP_path {id : List UInt8} (h : id.length = 32) : pathL (fileP id).data.toList = true := by rw [fileP, Vc.bs_list]; exact file_path h
theorem dirP_size {id : List UInt8} (h : id.length = 32) : (dirP id).size = 10 := by rw [dirP, Vc.bs_size, dir_len h]
theorem dirP_path {id : List UInt8} (h : id.length = 32) : pathL (dirP id).data.toList = true := by rw [dirP, Vc.bs_list]; exact dir_path h
section
variable {pl : Value} {n0 : Nat} {A : Nat → Prop} {b : Nat} {w w' : World} {fb room : Nat} {S : Fs}
theorem sy_file {q : ByteArray} {x : Nat} (hq : pathL q.data.toList = true) (hd : S.now q = some (some x)) : S.syE q = 0 := by
  unfold Fs.syE pvN
  rw [if_pos hq, hd]
  rfl
set_option maxHeartbeats 800000 in
set_option maxRecDepth 100000 in
theorem get_err (id : List UInt8) (h : id.length = 32) (E : Int) (hE : E = 2 ∨ E = 7) (HR : ∀ X, Kept [] w X → Calls Tryz.prog 35 #[.pointer (some ⟨fb, 0, none⟩), .string (fileP id)] X fun e w' => e = .returned (.tuple #[.string ⟨#[]⟩, .int .i64 E]) ∧ Kept [] X w') :
    Calls Tryz.prog 14 #[.pointer (some ⟨fb, 0, none⟩), .string (Vc.bs id)] w fun e w' => e = .returned (.tuple #[.string ⟨#[]⟩, .int .i64 E]) ∧ Kept [] w w' := by
  have HP := hideIt (path_any id h w)
  have HRD := hideIt HR
  clear HR h
  generalize fileP id = q at HP HRD
  generalize Vc.bs id = i at HP ⊢
  rcases hE with rfl | rfl
  · go_enter Tryz.func14, Tryz.ntmps14
    go_wp2_with (first | (go_at_call 17; refine HP.out.mono ?_; rintro e w1 ⟨rfl, hb1⟩) | (go_at_call 35; refine (HRD.out _ (Kept.of_below hb1)).mono ?_; rintro e w2 ⟨rfl, hk2⟩))
    go_ret2
    exact ⟨rfl, below_kept hb1 hk2⟩
  · go_enter Tryz.func14, Tryz.ntmps14
    go_wp2_with (first | (go_at_call 17; refine HP.out.mono ?_; rintro e w1 ⟨rfl, hb1⟩) | (go_at_call 35; refine (HRD.out _ (Kept.of_below hb1)).mono ?_; rintro e w2 ⟨rfl, hk2⟩))
    go_ret2
    exact ⟨rfl, below_kept hb1 hk2⟩
/-- Nothing is there. -/
theorem get_gone (h : St P0 n0 A b w fb S) (id : List UInt8) (hl : id.length = 32) (hn : S.now (fileP id) = none) :
    Calls Tryz.prog 14 #[.pointer (some ⟨fb, 0, none⟩), .string (Vc.bs id)] w fun e w' => e = .returned (.tuple #[.string ⟨#[]⟩, .int .i64 2]) ∧ Kept [] w w' :=
  get_err id hl 2 (.inl rfl) fun X hX => (read_rep (h.rep.keep hX) (calm_nil _ _) (fileP id) (by rw [fileP_size hl]; decide)).mono fun e w' ⟨hk, hr⟩ => by
    have e2 : S.syE (fileP id) = 2 := sy_none (fileP_path hl) hn
    rcases hr with ⟨_, he⟩ | ⟨h0, _⟩
    · rw [e2] at he; exact ⟨he, hk⟩
    · rw [e2] at h0; cases h0
/-- Without power. -/
theorem get_off {nb : Nat} {sv dv uv : Value} {came used room steps : Int} (h : FsAt w fb (.map (some nb)) sv dv uv came used room steps true pl) (id : List UInt8) (hl : id.length = 32) :
    Calls Tryz.prog 14 #[.pointer (some ⟨fb, 0, none⟩), .string (Vc.bs id)] w fun e w' => e = .returned (.tuple #[.string ⟨#[]⟩, .int .i64 7]) ∧ Kept [] w w' :=
  get_err id hl 7 (.inr rfl) fun X hX => read_off (hX.fs h (by simp)) (fileP id)
set_option maxHeartbeats 1600000 in
set_option maxRecDepth 100000 in
/-- A file is there: its object, or it is spoilt. -/
theorem get_there (h : St P0 n0 A b w fb S) (id : List UInt8) (hl : id.length = 32) {x : Nat} (hn : S.now (fileP id) = some (some x)) :
    Calls Tryz.prog 14 #[.pointer (some ⟨fb, 0, none⟩), .string (Vc.bs id)] w fun e w' => e = .returned (getV (getR (S.files x).now id)) ∧ Kept [] w w' := by
  have e0 : S.syE (fileP id) = 0 := sy_file (fileP_path hl) hn
  have hx : x < S.came := h.rep.o1 _ x hn
  obtain ⟨p, hp⟩ : ∃ p, (S.files x).now = p := ⟨_, rfl⟩
  have hps : p.size ≤ 100000000 := by
    obtain ⟨b1, b2, b3, done, n1, n2, n3, D1, D2, D3, F, e1, e2, e3, hS, hL⟩ := h.rep.laid
    rw [← hp]
    exact (hL.files x hx).2.2.1
  have HP := hideIt (path_any id hl w)
  have HRD : Hid (∀ X, Kept [] w X → Calls Tryz.prog 35 #[.pointer (some ⟨fb, 0, none⟩), .string (fileP id)] X fun e w' => e = .returned (.tuple #[.string p, .int .i64 0]) ∧ Kept [] X w') := hideIt (fun X hX => (read_rep (h.rep.keep hX) (calm_nil _ _) (fileP id) (by rw [fileP_size hl]; decide)).mono fun e w' ⟨hk, hr⟩ => by
    rcases hr with ⟨h0, _⟩ | ⟨_, y, hy, _, he⟩
    · exact absurd e0 h0
    · rw [hn] at hy
      simp only [Option.some.injEq] at hy
      subst hy
      rw [hp] at he
      exact ⟨he, hk⟩)
  have HS := hideIt (fun w => spread_c p w hps)
  rw [hp]
  have HG : Hid (getR p id = if (Ld.Lz.spP p.data.toList 1048576).1 = 0 ∧ (Sa.Sha.sha (Ld.Lz.spP p.data.toList 1048576).2) = Vc.bs id then some (Ld.Lz.spP p.data.toList 1048576).2 else none) := hideIt rfl
  have hlen : (Ld.Lz.spP p.data.toList 1048576).1 = 0 → (Ld.Lz.spP p.data.toList 1048576).2.length ≤ 1048576 := fun _ => sp_len p.data.toList
  generalize getR p id = G at HG ⊢
  generalize Ld.Lz.spP p.data.toList 1048576 = R at HS HG hlen
  obtain ⟨E, r⟩ := R
  simp only at HS HG hlen
  have HO := hideIt h.ok
  have HO2 : Hid (∀ X, Kept [] w X → Ob.Ok X) := hideIt (fun X hX => (h.kept hX).ok.ok)
  clear h hn e0 hp hx HO hl
  generalize fileP id = q at HP HRD
  generalize Vc.bs id = i at HP HG ⊢
  by_cases hE : E = 0
  · subst hE
    have HI := hideIt (fun X hX => Ob.id_any (Vc.bs r) X (by rw [Vc.bs_size]; have := hlen rfl; omega) (HO2.out X hX))
    rw [show (Vc.bs r).data.toList = r from Vc.bs_list r] at HI
    generalize Sa.Sha.sha r = s at HI HG
    clear hlen
    by_cases hs : s = i
    · have HGV : Hid (G = some r) := hideIt (by rw [HG.out, if_pos ⟨rfl, hs⟩])
      rw [HGV.out]
      have q1 : (s.toList == i.toList) = true := by rw [toL_eq, hs]; simp
      have q2 : (s.toList != i.toList) = false := by rw [bne, q1]; rfl
      clear hs HG
      show Calls _ _ _ _ fun e w' => e = .returned (.tuple #[.string (Vc.bs r), .int .i64 0]) ∧ _
      generalize Vc.bs r = rr at HS HI ⊢
      go_enter Tryz.func14, Tryz.ntmps14
      go_wp2_with (first | (go_at_call 17; refine HP.out.mono ?_; rintro e w1 ⟨rfl, hb1⟩) | (go_at_call 35; refine (HRD.out _ (Kept.of_below hb1)).mono ?_; rintro e w2 ⟨rfl, hk2⟩; have HK2 := hideIt (below_kept hb1 hk2); clear hk2) | (go_at_call 36; refine (HS.out _).mono ?_; rintro e w3 ⟨rfl, hb3⟩; have HK3 := hideIt (kept_below HK2.out hb3); clear hb3) | (go_at_call 29; refine (HI.out _ HK3.out).mono ?_; rintro e w4 ⟨rfl, hb4⟩))
      go_ret2
      exact ⟨rfl, kept_below HK3.out hb4⟩
    · have HGV : Hid (G = none) := hideIt (by rw [HG.out, if_neg (fun h => hs h.2)])
      rw [HGV.out]
      have q1 : (s.toList == i.toList) = false := by rw [toL_eq]; simp [hs]
      have q2 : (s.toList != i.toList) = true := by rw [bne, q1]; rfl
      have q3 : ¬ s.toList = i.toList := beq_eq_false_iff_ne.1 q1
      clear hs HG
      show Calls _ _ _ _ fun e w' => e = .returned (.tuple #[.string ⟨#[]⟩, .int .i64 80]) ∧ _
      generalize Vc.bs r = rr at HS HI
      go_enter Tryz.func14, Tryz.ntmps14
      go_wp2_with (first | (go_at_call 17; refine HP.out.mono ?_; rintro e w1 ⟨rfl, hb1⟩) | (go_at_call 35; refine (HRD.out _ (Kept.of_below hb1)).mono ?_; rintro e w2 ⟨rfl, hk2⟩; have HK2 := hideIt (below_kept hb1 hk2); clear hk2) | (go_at_call 36; refine (HS.out _).mono ?_; rintro e w3 ⟨rfl, hb3⟩; have HK3 := hideIt (kept_below HK2.out hb3); clear hb3) | (go_at_call 29; refine (HI.out _ HK3.out).mono ?_; rintro e w4 ⟨rfl, hb4⟩))
      go_ret2
      exact ⟨rfl, kept_below HK3.out hb4⟩
  · have HGV : Hid (G = none) := hideIt (by rw [HG.out, if_neg (fun h => hE h.1)])
    rw [HGV.out]
    have q1 : ((E : Int) == 0) = false := by rw [beq_eq_false_iff_ne]; omega
    have q2 : ((E : Int) != 0) = true := by rw [bne, q1]; rfl
    have q3 : ¬ (E : Int) = 0 := by omega
    clear HG hlen
    show Calls _ _ _ _ fun e w' => e = .returned (.tuple #[.string ⟨#[]⟩, .int .i64 80]) ∧ _
    generalize Vc.bs r = rr at HS
    go_enter Tryz.func14, Tryz.ntmps14
    go_wp2_with (first | (go_at_call 17; refine HP.out.mono ?_; rintro e w1 ⟨rfl, hb1⟩) | (go_at_call 35; refine (HRD.out _ (Kept.of_below hb1)).mono ?_; rintro e w2 ⟨rfl, hk2⟩; have HK2 := hideIt (below_kept hb1 hk2); clear hk2) | (go_at_call 36; refine (HS.out _).mono ?_; rintro e w3 ⟨rfl, hb3⟩; have HK3 := hideIt (kept_below HK2.out hb3); clear hb3))
    go_ret2
    exact ⟨rfl, HK3.out⟩
end
end Go.Proofs.YtbmhhlkjgnijgaaGreatDoor.Lo
namespace Go.Proofs.YtbmhhlkjgnijgaaGreatDoor.Lo
open Vc Go.RowKit Go.Shelf
theorem inc_ne_dir {id : List UInt8} (h : id.length = 32) : dirP id ≠ incP := ne_len (by rw [dir_len h]; decide)
theorem inc_ne_file {id : List UInt8} (h : id.length = 32) : fileP id ≠ incP := ne_len (by rw [file_len h]; decide)
theorem dir_ne_file {id jd : List UInt8} (h : id.length = 32) (hj : jd.length = 32) : dirP id ≠ fileP jd := ne_len (by rw [dir_len h, file_len hj]; decide)
theorem obj_ne_dir {id : List UInt8} (h : id.length = 32) : objP ≠ dirP id := ne_len (by rw [dir_len h]; decide)
theorem obj_ne_file {id : List UInt8} (h : id.length = 32) : objP ≠ fileP id := ne_len (by rw [file_len h]; decide)
/-- A picture that can take an object's file. -/
structure Ready (S : Fs) (id : List UInt8) : Prop where
  obj : S.now objP = some none
  inc : S.now incP = none
  dir : S.now (dirP id) = some none
  file : S.now (fileP id) ≠ some none
/-- Behind Write and Sync of what comes in. -/
noncomputable def inS (S : Fs) (p : ByteArray) : Fs := { S.fresh incP p with files := updF (S.fresh incP p).files S.came ⟨p, p⟩, steps := S.steps + 2 }
def setU (S : Fs) (u : Int) : Fs := { S with used := u }
theorem setU_now (S : Fs) (u : Int) : (setU S u).now = S.now := rfl
theorem enact_now (S : Fs) (a : Pa) : (S.enact a).now = doN S.now a := rfl
/-- Behind its Rename. -/
noncomputable def movS (S : Fs) (id : List UInt8) (p : ByteArray) (u : Int) : Fs := setU ((inS S p).enact ⟨1, incP, fileP id, some S.came⟩) u
theorem movS_now (S : Fs) (id : List UInt8) (p : ByteArray) (u : Int) : (movS S id p u).now = doN (inS S p).now ⟨1, incP, fileP id, some S.came⟩ := by
  unfold movS
  rw [setU_now, enact_now]
/-- Behind all of it. -/
noncomputable def laidS (S : Fs) (id : List UInt8) (p : ByteArray) (u : Int) : Fs := (movS S id p u).syncDir (dirP id)
theorem isDir_of {n : Nm} {q : ByteArray} (h : n q = some none) : isDir n q = true := by unfold isDir; rw [h]; simp
theorem isDir_not {n : Nm} {q : ByteArray} (h0 : q.data.toList ≠ []) (h : n q ≠ some none) : isDir n q = false := by
  unfold isDir
  have : q.data.toList.isEmpty = false := by simpa using h0
  rw [this]
  cases hq : n q with
  | none => rfl
  | some v =>
    cases v with
    | none => exact absurd hq h
    | some x => rfl
theorem ne_nil_of {L : List UInt8} (h : L.length ≠ 0) : (Vc.bs L).data.toList ≠ [] := by
  rw [Vc.bs_list]
  exact fun e => h (by rw [e]; rfl)
theorem inc_now {S : Fs} {id : List UInt8} (h : Ready S id) (p : ByteArray) : (S.fresh incP p).now = fun q => if q = incP then some (some S.came) else S.now q := by
  show doN S.now ⟨0, incP, ⟨#[]⟩, some S.came⟩ = _
  rw [doN_comes h.inc (by rw [dir_inc]; exact isDir_of h.obj)]
theorem moved_now {S : Fs} {id : List UInt8} (hl : id.length = 32) (h : Ready S id) (p : ByteArray) : doN (inS S p).now ⟨1, incP, fileP id, some S.came⟩ = fun q => if q = fileP id then some (some S.came) else S.now q := by
  have hn : (inS S p).now = fun q => if q = incP then some (some S.came) else S.now q := inc_now h p
  rw [hn]
  unfold doN
  have hd : isDir (fun q => if q = incP then some (some S.came) else S.now q) (dirOf (fileP id)) = true := by
    rw [dir_file]
    apply isDir_of
    show (if dirP id = incP then _ else _) = _
    rw [if_neg (inc_ne_dir hl), h.dir]
  have hf : isDir (fun q => if q = incP then some (some S.came) else S.now q) (fileP id) = false := by
    refine isDir_not (ne_nil_of (by rw [file_len hl]; decide)) ?_
    show (if fileP id = incP then _ else _) ≠ _
    rw [if_neg (inc_ne_file hl)]
    exact h.file
  rw [if_neg (show ¬ (1 : Nat) = 0 by decide), if_pos rfl, if_pos ⟨hd, .inl hf⟩]
  funext q
  show (if q = fileP id then some (some S.came) else if q = incP ∧ _ then none else if q = incP then _ else S.now q) = _
  by_cases e : q = fileP id
  · rw [if_pos e, if_pos e]
  · rw [if_neg e, if_neg e]
    by_cases e2 : q = incP
    · rw [if_pos ⟨e2, by simp [pvN]⟩, e2, h.inc]
    · rw [if_neg (fun h' => e2 h'.1), if_neg e2]
section
variable {n0 : Nat} {A : Nat → Prop} {b : Nat} {w w' : World} {fb room : Nat} {S : Fs}
theorem wr_inc {id : List UInt8} (h : Ready S id) : S.wrN incP = 0 := by
  unfold Fs.wrN
  rw [if_pos incP_path, dir_inc, isDir_of h.obj, if_pos rfl, isDir_not (by decide +kernel) (by rw [h.inc]; simp)]
  rfl
/-- The four steps of laying, one by one. -/
theorem lay_write {id : List UInt8} (hr : Ready S id) (h : St P0 n0 A b w fb S) (hb : b < 880) (p : ByteArray) (hp : p.size ≤ 100000000) :
    Calls Tryz.prog 68 #[.pointer (some ⟨fb, 0, none⟩), .string incP, .string p] w fun e w' => (Full S.used S.room (p.size : Int) ∧ e = .returned (.int .i64 33) ∧ Kept [] w w') ∨ (¬ Full S.used S.room (p.size : Int) ∧ e = .returned (.int .i64 0) ∧ StTo P0 n0 A (b + 1) w fb (S.fresh incP p) w') :=
  (write_new_rep h.rep (by omega) (calm_nil _ _) incP p (by rw [incP_size]; decide) hp (wr_inc hr) hr.inc).mono fun e w' hr' => hr'.elim .inl fun ⟨h1, h2, h3⟩ => .inr ⟨h1, h2, h.to h3⟩
theorem lay_sync {id : List UInt8} (hr : Ready S id) (p : ByteArray) {A' : Nat → Prop} {w' : World} (h : St P0 n0 A' b w' fb (S.fresh incP p)) (hb : b < 880) :
    Calls Tryz.prog 69 #[.pointer (some ⟨fb, 0, none⟩), .string incP] w' fun e w2 => e = .returned (.int .i64 0) ∧ StTo P0 n0 A' (b + 1) w' fb (inS S p) w2 := by
  have hn : (S.fresh incP p).now incP = some (some S.came) := by rw [inc_now hr p]; simp
  have e0 : (S.fresh incP p).syE incP = 0 := sy_file incP_path hn
  refine (sync_rep h.rep (by omega) (calm_nil _ _) incP (by rw [incP_size]; decide)).mono fun e w2 ⟨he, hr'⟩ => ?_
  rw [e0] at he
  rcases hr' with ⟨h0, _⟩ | ⟨_, S', ⟨x, hx, _, rfl⟩, hR⟩
  · exact absurd e0 h0
  · rw [hn] at hx
    simp only [Option.some.injEq] at hx
    subst hx
    have hf : ((S.fresh incP p).files S.came).now = p := by
      show (updF S.files S.came ⟨p, ⟨#[]⟩⟩ S.came).now = p
      simp [updF]
    rw [hf] at hR
    exact ⟨he, h.to hR⟩
theorem lay_move {id : List UInt8} (hl : id.length = 32) (hr : Ready S id) (p : ByteArray) {A' : Nat → Prop} {w' : World} (h : St P0 n0 A' b w' fb (inS S p)) (hb : b < 880) :
    Calls Tryz.prog 70 #[.pointer (some ⟨fb, 0, none⟩), .string incP, .string (fileP id)] w' fun e w2 => e = .returned (.int .i64 0) ∧ ∃ u, u ≤ (inS S p).used ∧ StTo P0 n0 A' (b + 1) w' fb (movS S id p u) w2 := by
  have hn : (inS S p).now = fun q => if q = incP then some (some S.came) else S.now q := inc_now hr p
  have h1 : (inS S p).now incP = some (some S.came) := by rw [hn]; simp
  have h2 : pvN (inS S p).now incP = some S.came := by unfold pvN; rw [h1]
  have hd : isDir (inS S p).now (dirOf (fileP id)) = true := by
    rw [dir_file]
    apply isDir_of
    rw [hn]
    show (if dirP id = incP then _ else _) = _
    rw [if_neg (inc_ne_dir hl), hr.dir]
  have hf : isDir (inS S p).now (fileP id) = false := by
    refine isDir_not (ne_nil_of (by rw [file_len hl]; decide)) ?_
    rw [hn]
    show (if fileP id = incP then _ else _) ≠ _
    rw [if_neg (inc_ne_file hl)]
    exact hr.file
  have e0 : (inS S p).rnE incP (fileP id) = 0 := by
    unfold Fs.rnE
    rw [if_pos ⟨incP_path, fileP_path hl⟩, h1, h2, toL_eq, hd, hf]
    simp [Ne.symm (inc_ne_file hl)]
  refine (rename_rep h.rep (by omega) (calm_nil _ _) incP (fileP id) (by rw [incP_size]; decide) (by rw [fileP_size hl]; decide)).mono fun e w2 ⟨he, hr'⟩ => ?_
  rw [e0] at he
  rcases hr' with ⟨h0, _⟩ | ⟨_, S', ⟨u, hu, rfl⟩, hR⟩
  · exact absurd e0 h0
  · rw [h2] at hR
    exact ⟨he, u, hu, h.to hR⟩
theorem lay_sure {id : List UInt8} (hl : id.length = 32) (hr : Ready S id) (p : ByteArray) (u : Int) {A' : Nat → Prop} {w' : World} (h : St P0 n0 A' b w' fb (movS S id p u)) (hb : b < 880) :
    Calls Tryz.prog 41 #[.pointer (some ⟨fb, 0, none⟩), .string (dirP id)] w' fun e w2 => e = .returned (.int .i64 0) ∧ StTo P0 n0 A' (b + 1) w' fb (laidS S id p u) w2 := by
  have hn : (movS S id p u).now (dirP id) = some none := by
    rw [movS_now, moved_now hl hr p]
    show (if dirP id = fileP id then _ else _) = _
    rw [if_neg (dir_ne_file hl hl), hr.dir]
  have e0 : (movS S id p u).nfE (dirP id) = 0 := nf_of (dirP_path hl) hn
  refine (syncDir_rep h.rep (by omega) (calm_nil _ _) (dirP id) (by rw [dirP_size hl]; decide)).mono fun e w2 ⟨he, hr'⟩ => ?_
  rw [e0] at he
  rcases hr' with ⟨h0, _⟩ | ⟨_, S', rfl, hR⟩
  · exact absurd e0 h0
  · exact ⟨he, h.to hR⟩
set_option maxHeartbeats 1600000 in
set_option maxRecDepth 100000 in
/-- An object's file is laid, when its folder stands there; or there is no room. -/
theorem lay_any (id : List UInt8) (hl : id.length = 32) (p : ByteArray) (hp : p.size ≤ 100000000) {S1 : Fs} (hr : Ready S1 id) (hb : b < 870) (HM : ∀ X, Kept [] w X → Calls Tryz.prog 50 #[.pointer (some ⟨fb, 0, none⟩), .string objP, .string (dirP id)] X fun e w' => e = .returned (.int .i64 0) ∧ StTo P0 n0 A b w fb S1 w') :
    Calls Tryz.prog 31 #[.pointer (some ⟨fb, 0, none⟩), .string (Vc.bs id), .string p] w fun e w' => (Full S1.used S1.room (p.size : Int) ∧ e = .returned (.int .i64 33) ∧ StTo P0 n0 A b w fb S1 w') ∨ (¬ Full S1.used S1.room (p.size : Int) ∧ e = .returned (.int .i64 0) ∧ ∃ u, u ≤ S1.used + (p.size : Int) ∧ StTo P0 n0 A (b + 4) w fb (laidS S1 id p u) w') := by
  have HFO := hideIt (fun w => folder_any id hl w)
  have HPA := hideIt (fun w => path_any id hl w)
  have HMF := hideIt HM
  have HW : Hid (∀ X, StTo P0 n0 A b w fb S1 X → Calls Tryz.prog 68 #[.pointer (some ⟨fb, 0, none⟩), .string incP, .string p] X fun e w' => (Full S1.used S1.room (p.size : Int) ∧ e = .returned (.int .i64 33) ∧ StTo P0 n0 A b w fb S1 w') ∨ (¬ Full S1.used S1.room (p.size : Int) ∧ e = .returned (.int .i64 0) ∧ StTo P0 n0 A (b + 1) w fb (S1.fresh incP p) w')) := hideIt (fun X ⟨A2, k1, k2, k3⟩ => (lay_write hr k2 (by omega) p hp).mono fun e w' hr' => by
    rcases hr' with ⟨h1, h2, h3⟩ | ⟨h1, h2, h3⟩
    · exact .inl ⟨h1, h2, StTo.step k1 k3 (StTo.kept k2 h3)⟩
    · exact .inr ⟨h1, h2, StTo.step k1 k3 h3⟩)
  have HS : Hid (∀ X, StTo P0 n0 A (b + 1) w fb (S1.fresh incP p) X → Calls Tryz.prog 69 #[.pointer (some ⟨fb, 0, none⟩), .string incP] X fun e w' => e = .returned (.int .i64 0) ∧ StTo P0 n0 A (b + 2) w fb (inS S1 p) w') := hideIt (fun X ⟨A2, k1, k2, k3⟩ => (lay_sync hr p k2 (by omega)).mono fun e w' ⟨h1, h2⟩ => ⟨h1, StTo.step k1 k3 h2⟩)
  have HR : Hid (∀ X Y, StTo P0 n0 A (b + 2) w fb (inS S1 p) X → Kept [] X Y → Calls Tryz.prog 70 #[.pointer (some ⟨fb, 0, none⟩), .string incP, .string (fileP id)] Y fun e w' => e = .returned (.int .i64 0) ∧ ∃ u, u ≤ (inS S1 p).used ∧ StTo P0 n0 A (b + 3) w fb (movS S1 id p u) w') := hideIt (fun X Y ⟨A2, k1, k2, k3⟩ hY => (lay_move hl hr p (k2.kept hY) (by omega)).mono fun e w' ⟨h1, u, hu, h2⟩ => ⟨h1, u, hu, StTo.step k1 k3 (StTo.step (fun _ hg => .inl hg) (Out.kept hY) h2)⟩)
  have HD : Hid (∀ X u, StTo P0 n0 A (b + 3) w fb (movS S1 id p u) X → Calls Tryz.prog 41 #[.pointer (some ⟨fb, 0, none⟩), .string (dirP id)] X fun e w' => e = .returned (.int .i64 0) ∧ StTo P0 n0 A (b + 4) w fb (laidS S1 id p u) w') := hideIt (fun X u ⟨A2, k1, k2, k3⟩ => (lay_sure hl hr p u k2 (by omega)).mono fun e w' ⟨h1, h2⟩ => ⟨h1, StTo.step k1 k3 h2⟩)
  have hu : (inS S1 p).used = S1.used + (p.size : Int) := rfl
  have HU := hideIt hu
  have ei : (⟨#[111, 98, 106, 101, 99, 116, 115, 47, 105, 110, 99, 111, 109, 105, 110, 103]⟩ : ByteArray) = incP := by decide +kernel
  have eo : (⟨#[111, 98, 106, 101, 99, 116, 115]⟩ : ByteArray) = objP := by decide +kernel
  clear hr HM hl hu
  obtain ⟨T1, hT1⟩ : ∃ T1 : World → Prop, T1 = StTo P0 n0 A b w fb S1 := ⟨_, rfl⟩
  obtain ⟨T2, hT2⟩ : ∃ T2 : World → Prop, T2 = StTo P0 n0 A (b + 1) w fb (S1.fresh incP p) := ⟨_, rfl⟩
  obtain ⟨T3, hT3⟩ : ∃ T3 : World → Prop, T3 = StTo P0 n0 A (b + 2) w fb (inS S1 p) := ⟨_, rfl⟩
  obtain ⟨T4, hT4⟩ : ∃ T4 : Int → World → Prop, T4 = fun u => StTo P0 n0 A (b + 3) w fb (movS S1 id p u) := ⟨_, rfl⟩
  obtain ⟨T5, hT5⟩ : ∃ T5 : Int → World → Prop, T5 = fun u => StTo P0 n0 A (b + 4) w fb (laidS S1 id p u) := ⟨_, rfl⟩
  replace HMF : Hid (∀ X, Kept [] w X → Calls Tryz.prog 50 #[.pointer (some ⟨fb, 0, none⟩), .string objP, .string (dirP id)] X fun e w' => e = .returned (.int .i64 0) ∧ T1 w') := by rw [hT1]; exact HMF
  replace HW : Hid (∀ X, T1 X → Calls Tryz.prog 68 #[.pointer (some ⟨fb, 0, none⟩), .string incP, .string p] X fun e w' => (Full S1.used S1.room (p.size : Int) ∧ e = .returned (.int .i64 33) ∧ T1 w') ∨ (¬ Full S1.used S1.room (p.size : Int) ∧ e = .returned (.int .i64 0) ∧ T2 w')) := by rw [hT1, hT2]; exact HW
  replace HS : Hid (∀ X, T2 X → Calls Tryz.prog 69 #[.pointer (some ⟨fb, 0, none⟩), .string incP] X fun e w' => e = .returned (.int .i64 0) ∧ T3 w') := by rw [hT2, hT3]; exact HS
  replace HR : Hid (∀ X Y, T3 X → Kept [] X Y → Calls Tryz.prog 70 #[.pointer (some ⟨fb, 0, none⟩), .string incP, .string (fileP id)] Y fun e w' => e = .returned (.int .i64 0) ∧ ∃ u, u ≤ S1.used + (p.size : Int) ∧ T4 u w') := by rw [hT3, hT4, ← HU.out]; exact HR
  replace HD : Hid (∀ X u, T4 u X → Calls Tryz.prog 41 #[.pointer (some ⟨fb, 0, none⟩), .string (dirP id)] X fun e w' => e = .returned (.int .i64 0) ∧ T5 u w') := by rw [hT4, hT5]; exact HD
  show Calls _ _ _ _ fun e w' => (Full S1.used S1.room (p.size : Int) ∧ e = .returned (.int .i64 33) ∧ StTo P0 n0 A b w fb S1 w') ∨ (¬ Full S1.used S1.room (p.size : Int) ∧ e = .returned (.int .i64 0) ∧ ∃ u, u ≤ S1.used + (p.size : Int) ∧ (fun u => StTo P0 n0 A (b + 4) w fb (laidS S1 id p u)) u w')
  rw [← hT1, ← hT5]
  clear hT1 hT2 hT3 hT4 hT5 HU hp
  generalize Full S1.used S1.room (p.size : Int) = FU at HW ⊢
  generalize S1.used + (p.size : Int) = UU at HR ⊢
  generalize dirP id = d at HFO HMF HD
  generalize fileP id = q at HPA HR
  generalize Vc.bs id = i at HFO HPA ⊢
  generalize incP = ip at HW HS HR ei
  generalize objP = op at HMF eo
  subst ei eo
  by_cases hfu : FU
  · have HFU := hideIt hfu
    clear hfu
    go_enter Tryz.func31, Tryz.ntmps31
    go_wp2_with (first | (go_at_call 39; refine (HFO.out _).mono ?_; rintro e w1 ⟨rfl, hb1⟩) | (go_at_call 50; refine (HMF.out _ (Kept.of_below hb1)).mono ?_; rintro e w2 ⟨rfl, ht2⟩) | (go_at_call 68; refine (HW.out _ ht2).mono ?_; rintro e w3 hw3; obtain ⟨rfl, ht3⟩ : e = .returned (.int .i64 33) ∧ T1 w3 := hw3.elim (fun h => h.2) (fun h => absurd HFU.out h.1); clear hw3))
    go_ret
    exact .inl ⟨HFU.out, rfl, ht3⟩
  · have HFU := hideIt hfu
    clear hfu
    go_enter Tryz.func31, Tryz.ntmps31
    go_wp2_with (first | (go_at_call 39; refine (HFO.out _).mono ?_; rintro e w1 ⟨rfl, hb1⟩) | (go_at_call 50; refine (HMF.out _ (Kept.of_below hb1)).mono ?_; rintro e w2 ⟨rfl, ht2⟩) | (go_at_call 68; refine (HW.out _ ht2).mono ?_; rintro e w3 hw3; obtain ⟨rfl, ht3⟩ : e = .returned (.int .i64 0) ∧ T2 w3 := hw3.elim (fun h => absurd h.1 HFU.out) (fun h => h.2); clear hw3) | (go_at_call 69; refine (HS.out _ ht3).mono ?_; rintro e w4 ⟨rfl, ht4⟩) | (go_at_call 17; refine (HPA.out _).mono ?_; rintro e w5 ⟨rfl, hb5⟩) | (go_at_call 70; refine (HR.out _ _ ht4 (Kept.of_below hb5)).mono ?_; rintro e w6 ⟨rfl, u, hu, ht6⟩) | (go_at_call 41; refine (HD.out _ _ ht6).mono ?_; rintro e w7 ⟨rfl, ht7⟩))
    go_ret
    exact .inr ⟨HFU.out, rfl, u, hu, ht7⟩
end
end Go.Proofs.YtbmhhlkjgnijgaaGreatDoor.Lo
namespace Go.Proofs.YtbmhhlkjgnijgaaGreatDoor.Lo
open Vc Go.RowKit Go.Shelf
def idL (raw : List UInt8) : List UInt8 := (Sa.Sha.sha raw).data.toList
theorem id_bs (raw : List UInt8) : Vc.bs (idL raw) = Sa.Sha.sha raw := Vc.bs_data _
theorem id_len (raw : List UInt8) : (idL raw).length = 32 := by rw [idL, Vc.str_len]; exact Ob.sha_size raw
def prP (raw : List UInt8) : ByteArray := Vc.bs (Ld.Lz.press raw)
theorem press_c (raw : List UInt8) (w : World) (h : raw.length ≤ 1048576) : Calls Tryz.prog 30 #[.string (Vc.bs raw)] w fun e w' => e = .returned (.tuple #[.string (prP raw), .int .i64 0]) ∧ Below w.heap.size w w' := by
  have := Ld.press_any (Vc.bs raw) w (by rw [Vc.bs_size]; exact h)
  rw [Vc.bs_list] at this
  exact this
theorem id_c (raw : List UInt8) (w : World) (h : raw.length ≤ 1048576) (hk : Ob.Ok w) : Calls Tryz.prog 29 #[.string (Vc.bs raw)] w fun e w' => e = .returned (.string (Vc.bs (idL raw))) ∧ Below w.heap.size w w' := by
  have := Ob.id_any (Vc.bs raw) w (by rw [Vc.bs_size]; omega) hk
  rw [Vc.bs_list, ← id_bs] at this
  exact this
set_option maxHeartbeats 800000 in
set_option maxRecDepth 100000 in
theorem links_blob (body : List UInt8) (hb : body.length ≤ 262144) (w : World) (hk : Ob.Ok w) : Calls Tryz.prog 28 #[.string (Vc.bs (Ob.rawL 1 body))] w fun e w' => e = .returned (.tuple #[.slice none 0 0, .int .i64 0]) ∧ Below w.heap.size w w' := by
  have hlen := Ob.raw_len 1 body (by omega)
  have HS := hideIt (Ob.split_any (Ob.rawL 1 body) (by omega) w hk)
  rw [Ob.opn_raw 1 (by decide) body (by omega), if_neg (by omega)] at HS
  unfold Ob.opV at HS
  simp only at HS
  clear hk hlen hb
  have HS2 : Hid (∃ x y : ByteArray, Vc.bs (Ob.rawL 1 body) = x ∧ Calls Tryz.prog 59 #[.string x] w fun e w' => e = .returned (.tuple #[.int .i64 1, .string y, .int .i64 0]) ∧ Below w.heap.size w w') := hideIt ⟨_, _, rfl, HS.out⟩
  obtain ⟨x, y, hx, H⟩ := HS2.out
  rw [hx]
  have HH := hideIt H
  clear HS HS2 H hx
  go_enter Tryz.func28, Tryz.ntmps28
  go_wp2_with (first | (go_at_call 59; refine HH.out.mono ?_; rintro e w1 ⟨rfl, hb1⟩))
  go_ret2
  exact ⟨rfl, hb1⟩
section
variable {pl : Value} {n0 : Nat} {A : Nat → Prop} {b : Nat} {w w' : World} {fb room : Nat} {S : Fs}
set_option maxHeartbeats 800000 in
set_option maxRecDepth 100000 in
/-- It is there already. -/
theorem put_same (raw : List UInt8) (hr : raw.length ≤ 1048576) (hk : ∀ X, Kept [] w X → Ob.Ok X) {v : Value} (HL : Calls Tryz.prog 28 #[.string (Vc.bs raw)] w fun e w' => (∃ v, e = .returned (.tuple #[v, .int .i64 0])) ∧ Below w.heap.size w w')
    (HG : ∀ X, Kept [] w X → Calls Tryz.prog 14 #[.pointer (some ⟨fb, 0, none⟩), .string (Vc.bs (idL raw))] X fun e w' => e = .returned (.tuple #[v, .int .i64 0]) ∧ Kept [] X w') :
    Calls Tryz.prog 12 #[.pointer (some ⟨fb, 0, none⟩), .string (Vc.bs raw)] w fun e w' => e = .returned (.tuple #[.string (Vc.bs (idL raw)), .int .i64 0]) ∧ Kept [] w w' := by
  have HLK := hideIt HL
  have HGT := hideIt HG
  have HID := hideIt (fun X hX => id_c raw X hr (hk X hX))
  clear HL HG hk hr
  generalize Vc.bs (idL raw) = i at HGT HID ⊢
  generalize Vc.bs raw = r at HLK HID ⊢
  go_enter Tryz.func12, Tryz.ntmps12
  go_wp2_with (first | (go_at_call 28; refine HLK.out.mono ?_; rintro e w1 ⟨⟨v1, rfl⟩, hb1⟩) | (go_at_call 29; refine (HID.out _ (Kept.of_below hb1)).mono ?_; rintro e w2 ⟨rfl, hb2⟩; have HK2 := hideIt (kept_below (Kept.of_below hb1) hb2); clear hb2) | (go_at_call 14; refine (HGT.out _ HK2.out).mono ?_; rintro e w3 ⟨rfl, hk3⟩))
  go_ret2
  exact ⟨rfl, (HK2.out.trans hk3).sub (by simp)⟩
set_option maxHeartbeats 800000 in
set_option maxRecDepth 100000 in
/-- It is laid, or not. -/
theorem put_lay (raw : List UInt8) (hr : raw.length ≤ 1048576) (hk : ∀ X, Kept [] w X → Ob.Ok X) (HL : Calls Tryz.prog 28 #[.string (Vc.bs raw)] w fun e w' => (∃ v, e = .returned (.tuple #[v, .int .i64 0])) ∧ Below w.heap.size w w')
    (E : Int) (hE : E ≠ 0) (HG : ∀ X, Kept [] w X → Calls Tryz.prog 14 #[.pointer (some ⟨fb, 0, none⟩), .string (Vc.bs (idL raw))] X fun e w' => e = .returned (.tuple #[.string ⟨#[]⟩, .int .i64 E]) ∧ Kept [] X w')
    (R : Int) (T : World → Prop) (HY : ∀ X, Kept [] w X → Calls Tryz.prog 31 #[.pointer (some ⟨fb, 0, none⟩), .string (Vc.bs (idL raw)), .string (prP raw)] X fun e w' => e = .returned (.int .i64 R) ∧ T w') :
    Calls Tryz.prog 12 #[.pointer (some ⟨fb, 0, none⟩), .string (Vc.bs raw)] w fun e w' => e = .returned (if R = 0 then .tuple #[.string (Vc.bs (idL raw)), .int .i64 0] else .tuple #[.string ⟨#[]⟩, .int .i64 R]) ∧ T w' := by
  have HLK := hideIt HL
  have HGT := hideIt HG
  have HLY := hideIt HY
  have HPR := hideIt (fun X => press_c raw X hr)
  have HID := hideIt (fun X hX => id_c raw X hr (hk X hX))
  have q1 : (E == 0) = false := by rw [beq_eq_false_iff_ne]; exact hE
  have q2 : (E != 0) = true := by rw [bne, q1]; rfl
  clear HL HG HY hk hr
  generalize Vc.bs (idL raw) = i at HGT HID HLY ⊢
  generalize prP raw = p at HPR HLY
  generalize Vc.bs raw = r at HLK HID HPR ⊢
  by_cases hR : R = 0
  · subst hR
    rw [if_pos rfl]
    go_enter Tryz.func12, Tryz.ntmps12
    go_wp2_with (first | (go_at_call 28; refine HLK.out.mono ?_; rintro e w1 ⟨⟨v1, rfl⟩, hb1⟩) | (go_at_call 29; refine (HID.out _ (Kept.of_below hb1)).mono ?_; rintro e w2 ⟨rfl, hb2⟩; have HK2 := hideIt (kept_below (Kept.of_below hb1) hb2); clear hb2) | (go_at_call 14; refine (HGT.out _ HK2.out).mono ?_; rintro e w3 ⟨rfl, hk3⟩; have HK3 : Hid (Kept [] w w3) := hideIt ((HK2.out.trans hk3).sub (by simp)); clear hk3) | (go_at_call 30; refine (HPR.out _).mono ?_; rintro e w4 ⟨rfl, hb4⟩; have HK4 := hideIt (kept_below HK3.out hb4); clear hb4) | (go_at_call 31; refine (HLY.out _ HK4.out).mono ?_; rintro e w5 ⟨rfl, ht5⟩))
    go_ret2
    exact ⟨rfl, ht5⟩
  · rw [if_neg hR]
    have r1 : (R == 0) = false := by rw [beq_eq_false_iff_ne]; exact hR
    have r2 : (R != 0) = true := by rw [bne, r1]; rfl
    go_enter Tryz.func12, Tryz.ntmps12
    go_wp2_with (first | (go_at_call 28; refine HLK.out.mono ?_; rintro e w1 ⟨⟨v1, rfl⟩, hb1⟩) | (go_at_call 29; refine (HID.out _ (Kept.of_below hb1)).mono ?_; rintro e w2 ⟨rfl, hb2⟩; have HK2 := hideIt (kept_below (Kept.of_below hb1) hb2); clear hb2) | (go_at_call 14; refine (HGT.out _ HK2.out).mono ?_; rintro e w3 ⟨rfl, hk3⟩; have HK3 : Hid (Kept [] w w3) := hideIt ((HK2.out.trans hk3).sub (by simp)); clear hk3) | (go_at_call 30; refine (HPR.out _).mono ?_; rintro e w4 ⟨rfl, hb4⟩; have HK4 := hideIt (kept_below HK3.out hb4); clear hb4) | (go_at_call 31; refine (HLY.out _ HK4.out).mono ?_; rintro e w5 ⟨rfl, ht5⟩))
    go_ret2
    exact ⟨rfl, ht5⟩
/-! ### Without power -/
section
variable {nb : Nat} {sv dv uv : Value} {came used room steps : Int}
set_option maxHeartbeats 800000 in
set_option maxRecDepth 100000 in
theorem mf_off (h : FsAt w fb (.map (some nb)) sv dv uv came used room steps true pl) (q p : ByteArray) :
    Calls Tryz.prog 50 #[.pointer (some ⟨fb, 0, none⟩), .string q, .string p] w fun e w' => e = .returned (.int .i64 7) ∧ Kept [] w w' := by
  have HR := hideIt (read_off h p)
  have HM := hideIt (fun X (hX : Kept [] w X) => mkdir_off (hX.fs h (by simp)) p)
  clear h
  go_enter Tryz.func50, Tryz.ntmps50
  go_wp2_with (first | (go_at_call 35; refine HR.out.mono ?_; rintro e w1 ⟨rfl, hk1⟩) | (go_at_call 99; refine (HM.out _ hk1).mono ?_; rintro e w2 ⟨rfl, hk2⟩))
  go_ret
  exact ⟨rfl, (hk1.trans hk2).sub (by simp)⟩
set_option maxHeartbeats 800000 in
set_option maxRecDepth 100000 in
theorem lay_off (h : FsAt w fb (.map (some nb)) sv dv uv came used room steps true pl) (id : List UInt8) (hl : id.length = 32) (p : ByteArray) :
    Calls Tryz.prog 31 #[.pointer (some ⟨fb, 0, none⟩), .string (Vc.bs id), .string p] w fun e w' => e = .returned (.int .i64 7) ∧ Kept [] w w' := by
  have HFO := hideIt (fun w => folder_any id hl w)
  have HM := hideIt (fun X (hX : Kept [] w X) (q : ByteArray) => mf_off (hX.fs h (by simp)) q (dirP id))
  clear h hl
  generalize dirP id = d at HFO HM
  generalize Vc.bs id = i at HFO ⊢
  go_enter Tryz.func31, Tryz.ntmps31
  go_wp2_with (first | (go_at_call 39; refine (HFO.out _).mono ?_; rintro e w1 ⟨rfl, hb1⟩) | (go_at_call 50; refine (HM.out _ (Kept.of_below hb1) _).mono ?_; rintro e w2 ⟨rfl, hk2⟩))
  go_ret
  exact ⟨rfl, below_kept hb1 hk2⟩
set_option maxHeartbeats 800000 in
set_option maxRecDepth 100000 in
theorem open_off (h : FsAt w fb (.map (some nb)) sv dv uv came used room steps true pl) :
    Calls Tryz.prog 23 #[.pointer (some ⟨fb, 0, none⟩)] w fun e w' => e = .returned (.int .i64 7) ∧ Kept [] w w' := by
  have HM := hideIt (fun (q p : ByteArray) => mf_off h q p)
  clear h
  go_enter Tryz.func23, Tryz.ntmps23
  go_wp2_with (first | (go_at_call 50; refine (HM.out _ _).mono ?_; rintro e w2 ⟨rfl, hk2⟩))
  go_ret
  exact ⟨rfl, hk2⟩
end
set_option maxHeartbeats 800000 in
set_option maxRecDepth 100000 in
theorem open_nil (w : World) : Calls Tryz.prog 23 #[.pointer none] w fun e w' => e = .returned (.int .i64 7) ∧ Kept [] w w' := by
  have HM : Hid (∀ (q p : ByteArray), Calls Tryz.prog 50 #[.pointer none, .string q, .string p] w fun e w' => e = .returned (.int .i64 7) ∧ Kept [] w w') := hideIt (fun q p => by
    have HR := hideIt (read_nil p w)
    have HM := hideIt (fun X => mkdir_nil p X)
    go_enter Tryz.func50, Tryz.ntmps50
    go_wp2_with (first | (go_at_call 35; refine HR.out.mono ?_; rintro e w1 ⟨rfl, hk1⟩) | (go_at_call 99; refine (HM.out _).mono ?_; rintro e w2 ⟨rfl, hk2⟩))
    go_ret
    exact ⟨rfl, (hk1.trans hk2).sub (by simp)⟩)
  go_enter Tryz.func23, Tryz.ntmps23
  go_wp2_with (first | (go_at_call 50; refine (HM.out _ _).mono ?_; rintro e w2 ⟨rfl, hk2⟩))
  go_ret
  exact ⟨rfl, hk2⟩
end
end Go.Proofs.YtbmhhlkjgnijgaaGreatDoor.Lo
namespace Go.Proofs.YtbmhhlkjgnijgaaGreatDoor.Lo
open Vc Go.RowKit Go.Shelf
/-- A blob's bytes. -/
def blobL (s : List UInt8) : List UInt8 := Ob.rawL 1 (s.take 200)
theorem blob_len (s : List UInt8) : (blobL s).length ≤ 228 := by
  have := Ob.raw_len 1 (s.take 200) (by simp; omega)
  unfold blobL
  simp at this
  omega
set_option maxHeartbeats 800000 in
set_option maxRecDepth 100000 in
theorem blob_any (s : List UInt8) (w : World) : Calls Tryz.prog 9 #[.string (Vc.bs s)] w fun e w' => e = .returned (.string (Vc.bs (blobL s))) ∧ Below w.heap.size w w' := by
  have hsz : (Vc.bs s).size = s.length := Vc.bs_size s
  have HR : Hid (∀ w, Calls Tryz.prog 27 #[.int .i64 1, .string (Vc.bs (s.take 200))] w fun e w' => e = .returned (.string (Vc.bs (blobL s))) ∧ Below w.heap.size w w') := hideIt (fun w => by
    have := Ob.refraw_any 1 (by decide) (Vc.bs (s.take 200)) w (by rw [Vc.bs_size]; simp; omega)
    rw [Vc.bs_list] at this
    exact this)
  by_cases h : 200 < s.length
  · have c1 : decide ((200 : Int) < ((Vc.bs s).size : Int)) = true := decide_eq_true (by omega)
    have c2 : (200 : Int) < ((Vc.bs s).size : Int) := by omega
    have c3 : (200 : Int) ≤ ((Vc.bs s).size : Int) := by omega
    have e1 : (Vc.bs s).extract 0 200 = Vc.bs (s.take 200) := by rw [ext_bs]; simp [List.extract]
    generalize Vc.bs (s.take 200) = t at HR e1
    generalize Vc.bs (blobL s) = r at HR ⊢
    generalize Vc.bs s = x at c1 c2 c3 e1 hsz ⊢
    clear hsz h
    go_enter Tryz.func9, Tryz.ntmps9
    go_wp2_with (first | (go_at_call 27; refine (HR.out _).mono ?_; rintro e w1 ⟨rfl, hb1⟩))
    go_ret
    exact ⟨rfl, hb1⟩
  · have c1 : decide ((200 : Int) < ((Vc.bs s).size : Int)) = false := decide_eq_false (by omega)
    have c2 : ¬ (200 : Int) < ((Vc.bs s).size : Int) := by omega
    rw [List.take_of_length_le (by omega)] at HR
    generalize Vc.bs (blobL s) = r at HR ⊢
    generalize Vc.bs s = x at HR c1 c2 hsz ⊢
    clear hsz h
    go_enter Tryz.func9, Tryz.ntmps9
    go_wp2_with (first | (go_at_call 27; refine (HR.out _).mono ?_; rintro e w1 ⟨rfl, hb1⟩))
    go_ret
    exact ⟨rfl, hb1⟩
/-- A place that was made: its blocks are new. -/
def Made (n0 b : Nat) (w : World) (fb : Nat) (S : Fs) (w' : World) : Prop := ∃ A : Nat → Prop, (∀ g, A g → w.heap.size ≤ g) ∧ St P0 n0 A b w' fb S ∧ Below w.heap.size w w'
section
variable {n0 : Nat} {A : Nat → Prop} {b b' : Nat} {w w' w1 : World} {fb room : Nat} {S S' : Fs}
theorem Out.toBelow {n : Nat} (h : Out A w w') (hn : n ≤ w.heap.size) (hA : ∀ g, A g → n ≤ g) : Below n w w' := h.below hn hA
theorem Made.step (h : Made n0 b w fb S w1) (k : ∀ A, St P0 n0 A b w1 fb S → StTo P0 n0 A b' w1 fb S' w') : Made n0 b' w fb S' w' := by
  obtain ⟨A, h1, h2, h3⟩ := h
  obtain ⟨A2, k1, k2, k3⟩ := k A h2
  refine ⟨A2, fun g hg => ?_, k2, h3.trans (k3.below h3.size h1)⟩
  rcases k1 g hg with e | e
  · exact h1 g e
  · exact Nat.le_trans h3.size e
theorem Made.of (h : StTo P0 n0 (fun g => g = fb) b w1 fb S w') (h1 : w.heap.size ≤ fb) (hb : Below w.heap.size w w1) : Made n0 b w fb S w' := by
  obtain ⟨A2, k1, k2, k3⟩ := h
  refine ⟨A2, fun g hg => ?_, k2, hb.trans (k3.below hb.size (fun g hg => by omega))⟩
  rcases k1 g hg with e | e
  · omega
  · exact Nat.le_trans hb.size e
set_option maxHeartbeats 800000 in
set_option maxRecDepth 100000 in
theorem place_any (ho : Okn n0 w) (hn : 0 < n0) (hw : n0 ≤ w.heap.size) :
    Calls Tryz.prog 10 #[] w fun e w' => e = .returned (.tuple #[.pointer (some ⟨w.heap.size, 0, none⟩), .bool true]) ∧ Made n0 3 w w.heap.size (baseS 1048576) w' := by
  have HN := hideIt (new_at 1048576 w)
  have HO : Hid (∀ X, NewAt X w.heap.size 1048576 → Kept [] w X → Calls Tryz.prog 23 #[.pointer (some ⟨w.heap.size, 0, none⟩)] X fun e w' => e = .returned (.int .i64 0) ∧ Made n0 3 w w.heap.size (baseS 1048576) w') := hideIt (fun X hX hk => by
    have hb : Below w.heap.size w X := (Out.kept (A := fun _ => False) hk).below (Nat.le_refl _) (fun g hg => hg.elim)
    exact (open_fresh hX (ho.step (hb.mono hw)) (by decide) hn hw).mono fun e w' ⟨he, hs⟩ => ⟨he, Made.of hs (Nat.le_refl _) hb⟩)
  clear ho hn hw
  go_enter Tryz.func10, Tryz.ntmps10
  go_wp2_with (first | (go_at_call 22; refine HN.out.mono ?_; rintro e w1 ⟨rfl, h1, hk1, hs1⟩; have HN1 : Hid (NewAt w1 w.heap.size 1048576) := hideIt h1; have HK1 := hideIt hk1; clear h1 hk1 hs1) | (go_at_call 23; refine (HO.out _ HN1.out HK1.out).mono ?_; rintro e w2 ⟨rfl, hm2⟩))
  go_ret2
  exact ⟨rfl, hm2⟩
end
end Go.Proofs.YtbmhhlkjgnijgaaGreatDoor.Lo
namespace Go.Proofs.YtbmhhlkjgnijgaaGreatDoor.Lo
open Vc Go.RowKit Go.Shelf
theorem tell_len (s : List UInt8) (told i : Nat) (hn : s.length ≤ 1048576) (h1 : told ≤ i) (h2 : i ≤ s.length) : (Ld.Lz.tell s told i).length ≤ 4 * (s.length - told) + 4 := by
  by_cases h : i < s.length
  · by_cases hb : Ld.Lz.back s i = 0
    · rw [Ld.Lz.tell_next h hb]
      exact tell_len s told (i + 1) hn (by omega) (by omega)
    · have hk := Ld.Lz.back_some hb
      have hr := Ld.Lz.run_le hb
      have h4 : 4 ≤ Ld.Lz.run s i := by unfold Ld.Lz.run; omega
      have ih := tell_len s (i + Ld.Lz.run s i) (i + Ld.Lz.run s i) hn (Nat.le_refl _) hr
      have a1 := Ld.numL_small (i - told) (by omega)
      have a2 := Ld.numL_small (Ld.Lz.back s i) (by omega)
      have a3 := Ld.numL_small (Ld.Lz.run s i - 4) (by omega)
      rw [Ld.Lz.tell_rep h hb]
      simp only [List.length_append, List.length_take, List.length_drop]
      omega
  · rw [Ld.Lz.tell_end h]
    split
    · have a1 := Ld.numL_small (s.length - told) (by omega)
      simp only [List.length_append, List.length_drop]
      omega
    · simp
  termination_by s.length - i
  decreasing_by all_goals omega
theorem press_le (s : List UInt8) (hn : s.length ≤ 1048576) : (prP s).size ≤ 4 * s.length + 8 := by
  have a1 := Ld.numL_small s.length (by omega)
  have a2 := tell_len s 0 0 hn (Nat.le_refl _) (by omega)
  rw [prP, Vc.bs_size, Ld.Lz.press, List.length_append]
  omega
/-- What is pressed is the object's again. -/
theorem get_press (raw : List UInt8) (h : raw.length ≤ 1048576) : getR (prP raw) (idL raw) = some raw := by
  have e : (prP raw).data.toList = Ld.Lz.press raw := Vc.bs_list _
  unfold getR
  rw [e, Ld.Lz.sp_press raw 1048576 h (by omega)]
  exact if_pos ⟨rfl, (id_bs raw).symm⟩
/-- Names: the folder of all, and one more. -/
def oneN (id : List UInt8) : Nm := fun q => if q = dirP id then some none else baseN q
def oneS (room : Nat) (id : List UInt8) : Fs := ⟨oneN id, oneN id, [], fun _ => ⟨⟨#[]⟩, ⟨#[]⟩⟩, 0, 0, room, 5⟩
theorem base_dir {id : List UInt8} (h : id.length = 32) : baseN (dirP id) = none := by unfold baseN; rw [if_neg (Ne.symm (obj_ne_dir h))]
theorem base_obj : baseN objP = some none := by unfold baseN; rw [if_pos rfl]
theorem do_dir {id : List UInt8} (h : id.length = 32) : doN baseN ⟨0, dirP id, ⟨#[]⟩, none⟩ = oneN id := by
  rw [doN_comes (base_dir h) (by rw [dir_dir]; exact isDir_of base_obj)]
  rfl
theorem in_dir_obj (id : List UInt8) : inP objP ⟨0, dirP id, ⟨#[]⟩, none⟩ = true := by
  unfold inP inB
  rw [show dirOf (⟨0, dirP id, ⟨#[]⟩, none⟩ : Pa).p = objP from dir_dir id]
  simp
theorem one_eq (room : Nat) {id : List UInt8} (h : id.length = 32) : ((baseS room).enact ⟨0, dirP id, ⟨#[]⟩, none⟩).syncDir objP = oneS room id := by
  unfold Fs.syncDir Fs.enact
  simp only [baseS, List.nil_append, do_dir h]
  simp only [List.filter_cons, in_dir_obj, List.filter_nil, if_true, List.foldl_cons, List.foldl_nil, do_dir h]
  rfl
theorem one_ready {room : Nat} {id : List UInt8} (h : id.length = 32) : Ready (oneS room id) id := by
  refine ⟨?_, ?_, ?_, ?_⟩
  · show (if objP = dirP id then some none else baseN objP) = _
    rw [if_neg (obj_ne_dir h), base_obj]
  · show (if incP = dirP id then some none else baseN incP) = _
    rw [if_neg (Ne.symm (inc_ne_dir h)), baseN, if_neg (Ne.symm obj_ne_inc)]
  · show (if dirP id = dirP id then some none else baseN (dirP id)) = _
    rw [if_pos rfl]
  · show (if fileP id = dirP id then some none else baseN (fileP id)) ≠ _
    rw [if_neg (Ne.symm (dir_ne_file h h)), baseN, if_neg (Ne.symm (obj_ne_file h))]
    simp
/-- Names with the file. -/
def keptN (id : List UInt8) : Nm := fun q => if q = fileP id then some (some 0) else oneN id q
theorem syncDir_now (S : Fs) (q : ByteArray) : (S.syncDir q).now = S.now := rfl
theorem syncDir_sure (S : Fs) (q : ByteArray) : (S.syncDir q).sure = (S.acts.filter (inP q)).foldl doN S.sure := rfl
theorem syncDir_files (S : Fs) (q : ByteArray) : (S.syncDir q).files = S.files := rfl
theorem enact_acts (S : Fs) (a : Pa) : (S.enact a).acts = S.acts ++ [a] := rfl
theorem enact_sure (S : Fs) (a : Pa) : (S.enact a).sure = S.sure := rfl
theorem enact_files (S : Fs) (a : Pa) : (S.enact a).files = S.files := rfl
theorem setU_acts (S : Fs) (u : Int) : (setU S u).acts = S.acts := rfl
theorem setU_sure (S : Fs) (u : Int) : (setU S u).sure = S.sure := rfl
theorem setU_files (S : Fs) (u : Int) : (setU S u).files = S.files := rfl
theorem laid_now {S : Fs} {id : List UInt8} (hl : id.length = 32) (h : Ready S id) (p : ByteArray) (u : Int) : (laidS S id p u).now = fun q => if q = fileP id then some (some S.came) else S.now q := by
  unfold laidS
  rw [syncDir_now, movS_now, moved_now hl h p]
theorem laid_files (S : Fs) (id : List UInt8) (p : ByteArray) (u : Int) : (laidS S id p u).files = updF (updF S.files S.came ⟨p, ⟨#[]⟩⟩) S.came ⟨p, p⟩ := by
  unfold laidS movS
  rw [syncDir_files, setU_files, enact_files]
  rfl
theorem in_inc_dir {id : List UInt8} (h : id.length = 32) (x : Option Nat) : inP (dirP id) ⟨0, incP, ⟨#[]⟩, x⟩ = false := by
  unfold inP inB
  rw [show dirOf (⟨0, incP, ⟨#[]⟩, x⟩ : Pa).p = objP from dir_inc, toL_eq, decide_eq_false (obj_ne_dir h)]
  rfl
theorem in_move_dir (id : List UInt8) (x : Option Nat) : inP (dirP id) ⟨1, incP, fileP id, x⟩ = true := by
  unfold inP inB
  rw [show dirOf (⟨1, incP, fileP id, x⟩ : Pa).to = dirP id from dir_file id, toL_eq (dirP id)]
  simp
/-- What is done to the sure names. -/
theorem moved_sure {n : Nm} {id : List UInt8} (c : Nat) (h1 : n (dirP id) = some none) (hl : id.length = 32) (h2 : n (fileP id) ≠ some none) : doN n ⟨1, incP, fileP id, some c⟩ = fun q => if q = fileP id then some (some c) else if q = incP ∧ pvN n incP = some c then none else n q := by
  unfold doN
  have hf : isDir n (fileP id) = false := isDir_not (ne_nil_of (by rw [file_len hl]; decide)) h2
  rw [if_neg (show ¬ (1 : Nat) = 0 by decide), if_pos rfl, if_pos ⟨by show isDir n (dirOf (fileP id)) = true; rw [dir_file]; exact isDir_of h1, .inl hf⟩]
theorem one_sure {room : Nat} {id : List UInt8} (hl : id.length = 32) (p : ByteArray) (u : Int) : (laidS (oneS room id) id p u).sure = keptN id := by
  have hr := one_ready (room := room) hl
  unfold laidS movS
  rw [syncDir_sure, setU_acts, setU_sure, enact_acts, enact_sure]
  have ea : (inS (oneS room id) p).acts = [⟨0, incP, ⟨#[]⟩, some 0⟩] := rfl
  have es : (inS (oneS room id) p).sure = oneN id := rfl
  have ec : (oneS room id).came = 0 := rfl
  rw [ea, es, ec]
  simp only [List.cons_append, List.nil_append, List.filter_cons, in_inc_dir hl, in_move_dir, List.filter_nil, if_true, Bool.false_eq_true, if_false, List.foldl_cons, List.foldl_nil]
  rw [moved_sure (n := oneN id) 0 hr.dir hl hr.file]
  funext q
  unfold keptN
  by_cases e : q = fileP id
  · simp [e]
  · rw [if_neg e, if_neg e]
    have hi : oneN id incP = none := hr.inc
    rw [if_neg (fun h => by have := h.2; unfold pvN at this; rw [hi] at this; cases this)]
theorem one_now {room : Nat} {id : List UInt8} (hl : id.length = 32) (p : ByteArray) (u : Int) : (laidS (oneS room id) id p u).now = keptN id := by
  rw [laid_now hl (one_ready hl) p u]
  rfl
theorem one_file (room : Nat) (id : List UInt8) (p : ByteArray) (u : Int) : (laidS (oneS room id) id p u).files 0 = ⟨p, p⟩ := by
  rw [laid_files]
  rfl
section
variable {n0 : Nat} {A : Nat → Prop} {b : Nat} {w w' : World} {fb room : Nat} {S : Fs}
theorem mf_one (h : St P0 n0 A b w fb (baseS room)) (hb : b < 880) {id : List UInt8} (hl : id.length = 32) :
    Calls Tryz.prog 50 #[.pointer (some ⟨fb, 0, none⟩), .string objP, .string (dirP id)] w fun e w' => e = .returned (.int .i64 0) ∧ StTo P0 n0 A (b + 2) w fb (oneS room id) w' := by
  have e2 : (baseS room).syE (dirP id) = 2 := sy_none (dirP_path hl) (base_dir hl)
  have e0 : (baseS room).mkE (dirP id) = 0 := by
    unfold Fs.mkE
    rw [if_pos (dirP_path hl), dir_dir, show (baseS room).now = baseN from rfl, isDir_of base_obj, base_dir hl]
    rfl
  have en : ((baseS room).enact ⟨0, dirP id, ⟨#[]⟩, none⟩).nfE objP = 0 := by
    refine nf_of objP_path ?_
    rw [enact_now, show (baseS room).now = baseN from rfl, do_dir hl]
    exact (one_ready (room := room) hl).obj
  have := mf_made h (by omega) objP (dirP id) (by rw [objP_size]; decide) (by rw [dirP_size hl]; decide) (by rw [e2]; decide) (by rw [e2]; decide) e0 en
  rw [one_eq room hl] at this
  exact this
/-- Put at a new place. -/
theorem put_base (h : St P0 n0 A b w fb (baseS room)) (hb : b < 860) (body : List UInt8) (hbl : body.length ≤ 262144) :
    Calls Tryz.prog 12 #[.pointer (some ⟨fb, 0, none⟩), .string (Vc.bs (Ob.rawL 1 body))] w fun e w' =>
      (room < (prP (Ob.rawL 1 body)).size ∧ e = .returned (.tuple #[.string ⟨#[]⟩, .int .i64 33]) ∧ StTo P0 n0 A (b + 2) w fb (oneS room (idL (Ob.rawL 1 body))) w') ∨
      ((prP (Ob.rawL 1 body)).size ≤ room ∧ e = .returned (.tuple #[.string (Vc.bs (idL (Ob.rawL 1 body))), .int .i64 0]) ∧ ∃ u, StTo P0 n0 A (b + 6) w fb (laidS (oneS room (idL (Ob.rawL 1 body))) (idL (Ob.rawL 1 body)) (prP (Ob.rawL 1 body)) u) w') := by
  have hrl := Ob.raw_len 1 body (by omega)
  have HLB := links_blob body hbl w h.ok.ok
  obtain ⟨raw, hraw⟩ : ∃ raw, Ob.rawL 1 body = raw := ⟨_, rfl⟩
  rw [hraw] at hrl HLB ⊢
  have hr : raw.length ≤ 1048576 := by omega
  have hl := id_len raw
  have hps := press_le raw hr
  have hn : (baseS room).now (fileP (idL raw)) = none := by
    show baseN (fileP (idL raw)) = none
    rw [baseN, if_neg (Ne.symm (obj_ne_file hl))]
  have hL : Calls Tryz.prog 28 #[.string (Vc.bs raw)] w fun e w' => (∃ v, e = .returned (.tuple #[v, .int .i64 0])) ∧ Below w.heap.size w w' := HLB.mono fun e w' ⟨he, hb⟩ => ⟨⟨_, he⟩, hb⟩
  have hpos : 0 < (prP raw).size := by
    rw [prP, Vc.bs_size, Ld.Lz.press, List.length_append]
    have h1 : 0 < (Cb.Cd.numL raw.length).length := by
      rw [Cb.Cd.numL, List.length_reverse, Cb.Cd.numR, List.length_cons]
      omega
    omega
  have hy : ∀ X, Kept [] w X → Calls Tryz.prog 31 #[.pointer (some ⟨fb, 0, none⟩), .string (Vc.bs (idL raw)), .string (prP raw)] X fun e w' => (Full 0 room ((prP raw).size : Int) ∧ e = .returned (.int .i64 33) ∧ StTo P0 n0 A (b + 2) w fb (oneS room (idL raw)) w') ∨ (¬ Full 0 room ((prP raw).size : Int) ∧ e = .returned (.int .i64 0) ∧ ∃ u, StTo P0 n0 A (b + 6) w fb (laidS (oneS room (idL raw)) (idL raw) (prP raw) u) w') := fun X hX => by
    refine (lay_any (idL raw) hl (prP raw) (by omega) (one_ready (room := room) hl) (b := b + 2) (n0 := n0) (A := A) (by omega) (fun Y hY => (mf_one ((h.kept hX).kept hY) (by omega) hl).mono fun e w' ⟨he, hs⟩ => ⟨he, StTo.step (fun _ hg => .inl hg) (Out.kept hY) hs⟩)).mono fun e w' hr' => ?_
    rcases hr' with ⟨h1, h2, h3⟩ | ⟨h1, h2, u, _, h3⟩
    · exact .inl ⟨h1, h2, StTo.step (fun _ hg => .inl hg) (Out.kept hX) h3⟩
    · exact .inr ⟨h1, h2, u, StTo.step (fun _ hg => .inl hg) (Out.kept hX) h3⟩
  have hg : ∀ X, Kept [] w X → Calls Tryz.prog 14 #[.pointer (some ⟨fb, 0, none⟩), .string (Vc.bs (idL raw))] X fun e w' => e = .returned (.tuple #[.string ⟨#[]⟩, .int .i64 2]) ∧ Kept [] X w' := fun X hX => get_gone (h.kept hX) (idL raw) hl hn
  have hok : ∀ X, Kept [] w X → Ob.Ok X := fun X hX => (h.kept hX).ok.ok
  by_cases hfu : room < (prP raw).size
  · have hF : Full 0 room ((prP raw).size : Int) := ⟨by omega, by omega⟩
    refine (put_lay raw hr hok hL 2 (by decide) hg 33 (StTo P0 n0 A (b + 2) w fb (oneS room (idL raw))) (fun X hX => (hy X hX).mono fun e w' hr' => ?_)).mono fun e w' ⟨he, hs⟩ => .inl ⟨hfu, ?_, hs⟩
    · rcases hr' with ⟨_, h2, h3⟩ | ⟨h1, _⟩
      · exact ⟨h2, h3⟩
      · exact absurd hF h1
    · rw [if_neg (by decide)] at he
      exact he
  · have hF : ¬ Full 0 room ((prP raw).size : Int) := fun hF => hfu (by have := hF.1; omega)
    refine (put_lay raw hr hok hL 2 (by decide) hg 0 (fun w' => ∃ u, StTo P0 n0 A (b + 6) w fb (laidS (oneS room (idL raw)) (idL raw) (prP raw) u) w') (fun X hX => (hy X hX).mono fun e w' hr' => ?_)).mono fun e w' ⟨he, hs⟩ => .inr ⟨by omega, ?_, hs⟩
    · rcases hr' with ⟨h1, _⟩ | ⟨_, h2, h3⟩
      · exact absurd h1 hF
      · exact ⟨h2, h3⟩
    · rw [if_pos rfl] at he
      exact he
end
end Go.Proofs.YtbmhhlkjgnijgaaGreatDoor.Lo
namespace Go.Proofs.YtbmhhlkjgnijgaaGreatDoor.Lo
open Vc Go.RowKit Go.Shelf
section
variable {n0 : Nat} {A : Nat → Prop} {b b' : Nat} {w w' w1 : World} {fb room : Nat} {S S' : Fs}
theorem Made.kept (h : Made n0 b w fb S w1) (hk : Kept [] w1 w') : Made n0 b w fb S w' := h.step fun _ hs => StTo.kept hs hk
theorem Made.below (h : Made n0 b w fb S w1) (hk : Below w1.heap.size w1 w') : Made n0 b w fb S w' := h.kept (Kept.of_below hk)
theorem Made.bel (h : Made n0 b w fb S w1) : Below w.heap.size w w1 := by
  obtain ⟨A, h1, h2, h3⟩ := h
  exact h3
theorem Made.to (h1 : ∀ g, A g → w.heap.size ≤ g) (h3 : Below w.heap.size w w1) (k : StTo P0 n0 A b' w1 fb S' w') : Made n0 b' w fb S' w' := by
  obtain ⟨A2, k1, k2, k3⟩ := k
  refine ⟨A2, fun g hg => ?_, k2, h3.trans (k3.below h3.size h1)⟩
  rcases k1 g hg with e | e
  · exact h1 g e
  · exact Nat.le_trans h3.size e
/-- A place without power. -/
def MadeD (n0 b : Nat) (w : World) (fb : Nat) (S : Fs) (w' : World) : Prop := ∃ A : Nat → Prop, (∀ g, A g → w.heap.size ≤ g) ∧ Dead P0 n0 A b w' fb S ∧ Okn n0 w' ∧ Below w.heap.size w w'
theorem Made.crash (h : Made n0 b w fb S w1) (hb : b < 890) (keep tn : Int) :
    Calls Tryz.prog 20 #[.pointer (some ⟨fb, 0, none⟩), .int .u64 keep, .int .i64 tn] w1 fun e w' => e = .returned (.tuple #[]) ∧ ∃ S', Fell S S' keep ∧ MadeD n0 (b + 1) w fb S' w' := by
  obtain ⟨A, h1, h2, h3⟩ := h
  refine (crash_rep h2.rep (by omega) keep tn).mono fun e w' ⟨he, S', hf, A2, k1, k2, k3⟩ => ⟨he, S', hf, A2, fun g hg => ?_, k2, h2.ok.step (k3.below h2.rep.nw h2.rep.lo), h3.trans (k3.below h3.size h1)⟩
  rcases k1 g hg with e | e
  · exact h1 g e
  · exact Nat.le_trans h3.size e
theorem MadeD.up (h : MadeD n0 b w fb S w1) :
    Calls Tryz.prog 21 #[.pointer (some ⟨fb, 0, none⟩)] w1 fun e w' => e = .returned (.bool true) ∧ Made n0 b w fb S w' := by
  obtain ⟨A, h1, h2, h3, h4⟩ := h
  refine (up_rep h2).mono fun e w' ⟨he, A2, k1, k2, k3⟩ => ⟨he, A2, fun g hg => ?_, ⟨k2, h3.step (k3.below h2.nw h2.lo)⟩, h4.trans (k3.below h4.size h1)⟩
  rcases k1 g hg with e | e
  · exact h1 g e
  · exact Nat.le_trans h4.size e
/-- What a fall that keeps nothing leaves of one object that was kept. -/
theorem fell_one {id : List UInt8} (hl : id.length = 32) {p : ByteArray} {u : Int} (h : Fell (laidS (oneS room id) id p u) S' 0) : S'.now = keptN id ∧ S'.files 0 = ⟨p, p⟩ := by
  obtain ⟨l', _, h2, h3, _⟩ := h.names
  rw [h2 rfl] at h3
  refine ⟨by rw [h3]; exact one_sure hl p u, ?_⟩
  rw [h.same 0 (by rw [one_file]), one_file]
theorem kept_obj {id : List UInt8} (hl : id.length = 32) : keptN id objP = some none := by
  unfold keptN
  rw [if_neg (obj_ne_file hl)]
  exact (one_ready (room := 0) hl).obj
theorem kept_inc {id : List UInt8} (hl : id.length = 32) : keptN id incP = none := by
  unfold keptN
  rw [if_neg (Ne.symm (inc_ne_file hl))]
  exact (one_ready (room := 0) hl).inc
theorem refid_c (raw : List UInt8) (w : World) (h : raw.length ≤ 1048576) : Calls Tryz.prog 16 #[.string (Vc.bs raw)] w fun e w' => e = .returned (.string (Vc.bs (idL raw))) ∧ Below w.heap.size w w' := by
  have := Ob.refid_any (Vc.bs raw) w (by rw [Vc.bs_size]; omega)
  rw [Vc.bs_list, ← id_bs] at this
  exact this
set_option maxHeartbeats 1600000 in
set_option maxRecDepth 100000 in
theorem awake_any (ho : Okn n0 w) (hn : 0 < n0) (hw : n0 ≤ w.heap.size) :
    Calls Tryz.prog 11 #[] w fun e w' => e = .returned (.bool true) ∧ Below w.heap.size w w' := by
  obtain ⟨raw, hraw⟩ : ∃ raw, blobL [120] = raw := ⟨_, rfl⟩
  have hrl : raw.length ≤ 228 := by rw [← hraw]; exact blob_len _
  have hl := id_len raw
  have hps := press_le raw (by omega)
  obtain ⟨fb, hfb⟩ : ∃ fb, w.heap.size = fb := ⟨_, rfl⟩
  have HP0 : Hid (Calls Tryz.prog 10 #[] w fun e w' => e = .returned (.tuple #[.pointer (some ⟨fb, 0, none⟩), .bool true]) ∧ Made n0 3 w fb (baseS 1048576) w') := hideIt (by rw [← hfb]; exact place_any ho hn hw)
  have HB : Hid (∀ X, Calls Tryz.prog 9 #[.string ⟨#[120]⟩] X fun e w' => e = .returned (.string (Vc.bs raw)) ∧ Below X.heap.size X w') := hideIt (fun X => by have := blob_any [120] X; rw [hraw] at this; exact this)
  have HPU : Hid (∀ X, Made n0 3 w fb (baseS 1048576) X → Calls Tryz.prog 12 #[.pointer (some ⟨fb, 0, none⟩), .string (Vc.bs raw)] X fun e w' => e = .returned (.tuple #[.string (Vc.bs (idL raw)), .int .i64 0]) ∧ ∃ u, Made n0 9 w fb (laidS (oneS 1048576 (idL raw)) (idL raw) (prP raw) u) w') := hideIt (fun X hX => by
    obtain ⟨A, h1, h2, h3⟩ := hX
    have := put_base h2 (by decide) ([120].take 200) (by decide)
    rw [show Ob.rawL 1 ([120].take 200) = raw from hraw] at this
    refine this.mono fun e w' hr => ?_
    rcases hr with ⟨h4, _⟩ | ⟨_, he, u, hs⟩
    · omega
    · exact ⟨he, u, Made.to h1 h3 hs⟩)
  have HCR : Hid (∀ X u, Made n0 9 w fb (laidS (oneS 1048576 (idL raw)) (idL raw) (prP raw) u) X → Calls Tryz.prog 20 #[.pointer (some ⟨fb, 0, none⟩), .int .u64 0, .int .i64 0] X fun e w' => e = .returned (.tuple #[]) ∧ ∃ S', (S'.now = keptN (idL raw) ∧ S'.files 0 = ⟨prP raw, prP raw⟩) ∧ MadeD n0 10 w fb S' w') := hideIt (fun X u hX => (hX.crash (by decide) 0 0).mono fun e w' ⟨he, S', hf, hd⟩ => ⟨he, S', fell_one hl hf, hd⟩)
  have HUP : Hid (∀ X S', MadeD n0 10 w fb S' X → Calls Tryz.prog 21 #[.pointer (some ⟨fb, 0, none⟩)] X fun e w' => e = .returned (.bool true) ∧ Made n0 10 w fb S' w') := hideIt (fun X S' hX => hX.up)
  have HGE : Hid (∀ X S', (S'.now = keptN (idL raw) ∧ S'.files 0 = ⟨prP raw, prP raw⟩) → Made n0 10 w fb S' X → Calls Tryz.prog 14 #[.pointer (some ⟨fb, 0, none⟩), .string (Vc.bs (idL raw))] X fun e w' => e = .returned (.tuple #[.string (Vc.bs raw), .int .i64 0]) ∧ Made n0 10 w fb S' w') := hideIt (fun X S' ⟨hn', hf⟩ ⟨A, h1, h2, h3⟩ => by
    have hx : S'.now (fileP (idL raw)) = some (some 0) := by rw [hn', keptN, if_pos rfl]
    refine (get_there h2 (idL raw) hl hx).mono fun e w' ⟨he, hk⟩ => ⟨?_, Made.kept ⟨A, h1, h2, h3⟩ hk⟩
    rw [he, hf]
    show Ending.returned (getV (getR (prP raw) (idL raw))) = _
    rw [get_press raw (by omega)]
    rfl)
  have HRI : Hid (∀ X, Calls Tryz.prog 16 #[.string (Vc.bs raw)] X fun e w' => e = .returned (.string (Vc.bs (idL raw))) ∧ Below X.heap.size X w') := hideIt (fun X => refid_c raw X (by omega))
  have HOP : Hid (∀ X S', (S'.now = keptN (idL raw) ∧ S'.files 0 = ⟨prP raw, prP raw⟩) → Made n0 10 w fb S' X → Calls Tryz.prog 23 #[.pointer (some ⟨fb, 0, none⟩)] X fun e w' => e = .returned (.int .i64 0) ∧ Below w.heap.size w w') := hideIt (fun X S' ⟨hn', hf⟩ ⟨A, h1, h2, h3⟩ => (open_there h2 (by decide) (by rw [hn']; exact kept_obj hl) (by rw [hn']; exact kept_inc hl)).mono fun e w' ⟨he, hs⟩ => ⟨he, (Made.to h1 h3 hs).bel⟩)
  obtain ⟨T1, hT1⟩ : ∃ T : World → Prop, T = Made n0 3 w fb (baseS 1048576) := ⟨_, rfl⟩
  obtain ⟨T2, hT2⟩ : ∃ T : Int → World → Prop, T = fun u => Made n0 9 w fb (laidS (oneS 1048576 (idL raw)) (idL raw) (prP raw) u) := ⟨_, rfl⟩
  obtain ⟨T3, hT3⟩ : ∃ T : Fs → World → Prop, T = MadeD n0 10 w fb := ⟨_, rfl⟩
  obtain ⟨T4, hT4⟩ : ∃ T : Fs → World → Prop, T = Made n0 10 w fb := ⟨_, rfl⟩
  obtain ⟨Q, hQ⟩ : ∃ Q : Fs → Prop, Q = fun S' => S'.now = keptN (idL raw) ∧ S'.files 0 = ⟨prP raw, prP raw⟩ := ⟨_, rfl⟩
  replace HP0 : Hid (Calls Tryz.prog 10 #[] w fun e w' => e = .returned (.tuple #[.pointer (some ⟨fb, 0, none⟩), .bool true]) ∧ T1 w') := by rw [hT1]; exact HP0
  have HT1 : Hid (∀ X Y, T1 X → Below X.heap.size X Y → T1 Y) := hideIt (by rw [hT1]; exact fun X Y h k => h.below k)
  replace HPU : Hid (∀ X, T1 X → Calls Tryz.prog 12 #[.pointer (some ⟨fb, 0, none⟩), .string (Vc.bs raw)] X fun e w' => e = .returned (.tuple #[.string (Vc.bs (idL raw)), .int .i64 0]) ∧ ∃ u, T2 u w') := by rw [hT1, hT2]; exact HPU
  replace HCR : Hid (∀ X u, T2 u X → Calls Tryz.prog 20 #[.pointer (some ⟨fb, 0, none⟩), .int .u64 0, .int .i64 0] X fun e w' => e = .returned (.tuple #[]) ∧ ∃ S', Q S' ∧ T3 S' w') := by rw [hT2, hT3, hQ]; exact HCR
  replace HUP : Hid (∀ X S', T3 S' X → Calls Tryz.prog 21 #[.pointer (some ⟨fb, 0, none⟩)] X fun e w' => e = .returned (.bool true) ∧ T4 S' w') := by rw [hT3, hT4]; exact HUP
  replace HGE : Hid (∀ X S', Q S' → T4 S' X → Calls Tryz.prog 14 #[.pointer (some ⟨fb, 0, none⟩), .string (Vc.bs (idL raw))] X fun e w' => e = .returned (.tuple #[.string (Vc.bs raw), .int .i64 0]) ∧ T4 S' w') := by rw [hT4, hQ]; exact HGE
  have HT4 : Hid (∀ X Y S', T4 S' X → Below X.heap.size X Y → T4 S' Y) := hideIt (by rw [hT4]; exact fun X Y S' h k => h.below k)
  replace HOP : Hid (∀ X S', Q S' → T4 S' X → Calls Tryz.prog 23 #[.pointer (some ⟨fb, 0, none⟩)] X fun e w' => e = .returned (.int .i64 0) ∧ Below w.heap.size w w') := by rw [hT4, hQ]; exact HOP
  clear hT1 hT2 hT3 hT4 hQ ho hn hw hfb hl hps hrl hraw
  generalize Vc.bs (idL raw) = i at HPU HGE HRI
  generalize Vc.bs raw = r at HB HPU HGE HRI
  have q1 : (i.toList == i.toList) = true := by simp
  have q2 : (r.toList == r.toList) = true := by simp
  go_enter Tryz.func11, Tryz.ntmps11
  go_wp2_with (first
    | (go_at_call 10; refine HP0.out.mono ?_; rintro e w1 ⟨rfl, ht1⟩)
    | (go_at_call 12; refine (HPU.out _ (HT1.out _ _ ht1 hb2)).mono ?_; rintro e w3 ⟨rfl, u, ht3⟩)
    | (go_at_call 20; refine (HCR.out _ _ ht3).mono ?_; rintro e w4 ⟨rfl, S4, hq4, ht4⟩)
    | (go_at_call 21; refine (HUP.out _ _ ht4).mono ?_; rintro e w5 ⟨rfl, ht5⟩)
    | (go_at_call 14; refine (HGE.out _ _ hq4 ht5).mono ?_; rintro e w6 ⟨rfl, ht6⟩)
    | (go_at_call 16; refine (HRI.out _).mono ?_; rintro e w8 ⟨rfl, hb8⟩)
    | (go_at_call 23; refine (HOP.out _ _ hq4 (HT4.out _ _ _ (HT4.out _ _ _ ht6 hb2) hb8)).mono ?_; rintro e w9 ⟨rfl, hb9⟩)
    | (go_at_call 9; refine (HB.out _).mono ?_; rintro e w2 ⟨rfl, hb2⟩))
  go_ret
  exact ⟨rfl, Ob.below2 hb9 hb2⟩
end
end Go.Proofs.YtbmhhlkjgnijgaaGreatDoor.Lo
namespace Go.Proofs.YtbmhhlkjgnijgaaGreatDoor.Lo
open Vc Go.RowKit Go.Shelf
theorem i64_and31 (n : Int) : bits .and .i64 n 31 = n % 32 := by
  have h31 : (BitVec.ofInt 64 31).toNat = 2 ^ 5 - 1 := by decide
  have key : (BitVec.ofInt 64 n &&& BitVec.ofInt 64 31).toNat = (n % ((2 ^ 64 : Nat) : Int)).toNat % 2 ^ 5 := by
    rw [BitVec.toNat_and, BitVec.toNat_ofInt, h31, Nat.and_two_pow_sub_one_eq_mod]
  show IntKind.i64.wrap ((BitVec.ofInt 64 n &&& BitVec.ofInt 64 31).toNat : Nat) = n % 32
  rw [key, IntKind.wrap_i64]
  omega
theorem refpress_c (raw : List UInt8) (w : World) (h : raw.length ≤ 1048576) : Calls Tryz.prog 24 #[.string (Vc.bs raw)] w fun e w' => e = .returned (.string (prP raw)) ∧ Below w.heap.size w w' := by
  have := Ld.refpress_any (Vc.bs raw) w (by rw [Vc.bs_size]; exact h)
  rw [Vc.bs_list] at this
  exact this
/-- A place without power, whatever stands there. -/
def Off (n0 : Nat) (fb : Nat) (w : World) : Prop := Okn n0 w ∧ n0 ≤ w.heap.size ∧ ∃ (nb : Nat) (sv uv : Value) (came used room steps : Int), FsAt w fb (.map (some nb)) sv (.slice none 0 0) uv came used room steps true P0
section
variable {n0 : Nat} {b : Nat} {w w' w1 : World} {fb : Nat} {S : Fs}
theorem MadeD.off (h : MadeD n0 b w fb S w1) : Off n0 fb w1 := by
  obtain ⟨A, h1, h2, h3, h4⟩ := h
  obtain ⟨nb, sv, uv, hf⟩ := h2.fs
  exact ⟨h3, h2.nw, nb, sv, uv, _, _, _, _, hf⟩
theorem Off.kept (h : Off n0 fb w) (hk : Kept [] w w') : Off n0 fb w' := by
  obtain ⟨h1, h2, nb, sv, uv, c, u, r, s, hf⟩ := h
  exact ⟨h1.step ((Out.kept (A := fun _ => False) hk).below h2 (fun g hg => hg.elim)), Nat.le_trans h2 hk.size, nb, sv, uv, c, u, r, s, hk.fs hf (by simp)⟩
theorem Off.put (h : Off n0 fb w) (body : List UInt8) (hbl : body.length ≤ 262144) :
    Calls Tryz.prog 12 #[.pointer (some ⟨fb, 0, none⟩), .string (Vc.bs (Ob.rawL 1 body))] w fun e w' => e = .returned (.tuple #[.string ⟨#[]⟩, .int .i64 7]) ∧ Kept [] w w' := by
  have hrl := Ob.raw_len 1 body (by omega)
  have HLB := links_blob body hbl w h.1.ok
  obtain ⟨raw, hraw⟩ : ∃ raw, Ob.rawL 1 body = raw := ⟨_, rfl⟩
  rw [hraw] at hrl HLB ⊢
  have hl := id_len raw
  refine (put_lay raw (by omega) (fun X hX => (h.kept hX).1.ok) (HLB.mono fun e w' ⟨he, hb⟩ => ⟨⟨_, he⟩, hb⟩) 7 (by decide) (fun X hX => ?_) 7 (Kept [] w) (fun X hX => ?_)).mono fun e w' ⟨he, hk⟩ => ⟨?_, hk⟩
  · obtain ⟨_, _, nb, sv, uv, c, u, r, s, hf⟩ := h.kept hX
    exact get_off hf (idL raw) hl
  · obtain ⟨_, _, nb, sv, uv, c, u, r, s, hf⟩ := h.kept hX
    exact (lay_off hf (idL raw) hl (prP raw)).mono fun e w' ⟨he, hk⟩ => ⟨he, (hX.trans hk).sub (by simp)⟩
  · rw [if_neg (by decide)] at he
    exact he
set_option maxHeartbeats 800000 in
set_option maxRecDepth 100000 in
theorem Off.list (h : Off n0 fb w) : Calls Tryz.prog 13 #[.pointer (some ⟨fb, 0, none⟩)] w fun e w' => e = .returned (.slice none 0 0) ∧ Kept [] w w' := by
  have HF : Hid (Calls Tryz.prog 32 #[.pointer (some ⟨fb, 0, none⟩)] w fun e w' => e = .returned (.tuple #[.slice none 0 0, .int .i64 7]) ∧ Kept [] w w') := hideIt (by
    have HL : Hid (Calls Tryz.prog 33 #[.pointer (some ⟨fb, 0, none⟩), .string ⟨#[111, 98, 106, 101, 99, 116, 115]⟩] w fun e w' => e = .returned (.tuple #[.slice none 0 0, .int .i64 7]) ∧ Kept [] w w') := hideIt (by
      obtain ⟨_, _, nb, sv, uv, c, u, r, s, hf⟩ := h
      exact list_off hf _ (by decide))
    clear h
    go_enter Tryz.func32, Tryz.ntmps32
    go_wp2_with (first | (go_at_call 33; refine HL.out.mono ?_; rintro e w1 ⟨rfl, hk1⟩))
    go_ret2
    exact ⟨rfl, hk1⟩)
  clear h
  go_enter Tryz.func13, Tryz.ntmps13
  go_wp2_with (first | (go_at_call 32; refine HF.out.mono ?_; rintro e w1 ⟨rfl, hk1⟩))
  refine wp_loop_rounds 1 ?_
  rw [rounds_succ]
  go_wp2
  go_ret
  exact ⟨rfl, hk1⟩
end
end Go.Proofs.YtbmhhlkjgnijgaaGreatDoor.Lo
namespace Go.Proofs.YtbmhhlkjgnijgaaGreatDoor.Lo
open Vc Go.RowKit Go.Shelf
set_option maxHeartbeats 3200000 in
set_option maxRecDepth 100000 in
theorem none_law (s : ByteArray) (room : Int) (W : World) (hk : Ob.Ok W) :
    Calls Tryz.prog 5 #[.string s, .int .i64 room] W fun e w' => e = .returned (.bool true) ∧ Below W.heap.size W w' := by
  obtain ⟨n0, hn0⟩ : ∃ n0, W.heap.size = n0 := ⟨_, rfl⟩
  have hz : 0 < n0 := by rw [← hn0]; exact hk.max.pos
  have ho : Okn n0 W := ⟨W, hk, by omega, Below.refl _ _⟩
  obtain ⟨r, hr, hr31⟩ : ∃ r : Nat, bits BinOp.and IntKind.i64 room 31 = (r : Int) ∧ r ≤ 31 := ⟨(room % 32).toNat, by rw [i64_and31]; omega, by omega⟩
  obtain ⟨raw, hraw⟩ : ∃ raw, blobL s.data.toList = raw := ⟨_, rfl⟩
  have hrl : raw.length ≤ 228 := by rw [← hraw]; exact blob_len _
  have hl := id_len raw
  have hps := press_le raw (by omega)
  have hbl : (s.data.toList.take 200).length ≤ 262144 := by simp; omega
  have HNE := hideIt (new_at r W)
  rw [hn0] at HNE
  have HOP : Hid (∀ X, FsAt X n0 (.map none) (.map none) (.slice none 0 0) (.map none) 0 0 r 0 false → Kept [] W X → Calls Tryz.prog 23 #[.pointer (some ⟨n0, 0, none⟩)] X fun e w' => e = .returned (.int .i64 0) ∧ Made n0 3 W n0 (baseS r) w') := hideIt (fun X hX hkX => by
    have hb : Below W.heap.size W X := (Out.kept (A := fun _ => False) hkX).below (Nat.le_refl _) (fun g hg => hg.elim)
    exact (open_fresh (n0 := n0) (fb := n0) (room := r) hX (ho.step (by rw [← hn0]; exact hb)) (by omega) hz (Nat.le_refl _)).mono fun e w' ⟨he, hs⟩ => ⟨he, Made.of hs (by omega) hb⟩)
  have HB : Hid (∀ X, Calls Tryz.prog 9 #[.string s] X fun e w' => e = .returned (.string (Vc.bs raw)) ∧ Below X.heap.size X w') := hideIt (fun X => by
    have := blob_any s.data.toList X
    rw [hraw, Vc.bs_data] at this
    exact this)
  have HPU : Hid (∀ X, Made n0 3 W n0 (baseS r) X → Calls Tryz.prog 12 #[.pointer (some ⟨n0, 0, none⟩), .string (Vc.bs raw)] X fun e w' => (r < (prP raw).size ∧ e = .returned (.tuple #[.string ⟨#[]⟩, .int .i64 33]) ∧ ∃ b S, b < 100 ∧ Made n0 b W n0 S w') ∨ ((prP raw).size ≤ r ∧ e = .returned (.tuple #[.string (Vc.bs (idL raw)), .int .i64 0]) ∧ ∃ b S, b < 100 ∧ Made n0 b W n0 S w')) := hideIt (fun X ⟨A, h1, h2, h3⟩ => by
    have := put_base h2 (by decide) (s.data.toList.take 200) hbl
    rw [show Ob.rawL 1 (s.data.toList.take 200) = raw from hraw] at this
    refine this.mono fun e w' hr => ?_
    rcases hr with ⟨h4, he, hs⟩ | ⟨h4, he, u, hs⟩
    · exact .inl ⟨h4, he, _, _, by decide, Made.to h1 h3 hs⟩
    · exact .inr ⟨h4, he, _, _, by decide, Made.to h1 h3 hs⟩)
  have HCR : Hid (∀ X, (∃ b S, b < 100 ∧ Made n0 b W n0 S X) → Calls Tryz.prog 20 #[.pointer (some ⟨n0, 0, none⟩), .int .u64 0, .int .i64 0] X fun e w' => e = .returned (.tuple #[]) ∧ Off n0 n0 w' ∧ Below W.heap.size W w') := hideIt (fun X ⟨b, S, hb, hX⟩ => (hX.crash (by omega) 0 0).mono fun e w' ⟨he, S', hf, hd⟩ => ⟨he, hd.off, by obtain ⟨_, _, _, _, h⟩ := hd; exact h⟩)
  have HP2 : Hid (∀ X, Off n0 n0 X → Calls Tryz.prog 12 #[.pointer (some ⟨n0, 0, none⟩), .string (Vc.bs raw)] X fun e w' => e = .returned (.tuple #[.string ⟨#[]⟩, .int .i64 7]) ∧ Kept [] X w') := hideIt (fun X hX => by
    have := hX.put (s.data.toList.take 200) hbl
    rw [show Ob.rawL 1 (s.data.toList.take 200) = raw from hraw] at this
    exact this)
  have HGE : Hid (∀ X, Off n0 n0 X → Calls Tryz.prog 14 #[.pointer (some ⟨n0, 0, none⟩), .string (Vc.bs (idL raw))] X fun e w' => e = .returned (.tuple #[.string ⟨#[]⟩, .int .i64 7]) ∧ Kept [] X w') := hideIt (fun X ⟨_, _, nb, sv, uv, c, u, r', s', hf⟩ => get_off hf (idL raw) hl)
  have HRP : Hid (∀ X, Calls Tryz.prog 24 #[.string (Vc.bs raw)] X fun e w' => e = .returned (.string (prP raw)) ∧ Below X.heap.size X w') := hideIt (fun X => refpress_c raw X (by omega))
  have HRI : Hid (∀ X, Calls Tryz.prog 16 #[.string (Vc.bs raw)] X fun e w' => e = .returned (.string (Vc.bs (idL raw))) ∧ Below X.heap.size X w') := hideIt (fun X => refid_c raw X (by omega))
  have HAW : Hid (∀ X, Off n0 n0 X → Calls Tryz.prog 11 #[] X fun e w' => e = .returned (.bool true) ∧ Kept [] X w') := hideIt (fun X hX => (awake_any hX.1 hz hX.2.1).mono fun e w' ⟨he, hb⟩ => ⟨he, Kept.of_below hb⟩)
  have HO2 : Hid (∀ X, Off n0 n0 X → Calls Tryz.prog 23 #[.pointer (some ⟨n0, 0, none⟩)] X fun e w' => e = .returned (.int .i64 7) ∧ Kept [] X w') := hideIt (fun X ⟨_, _, nb, sv, uv, c, u, r', s', hf⟩ => open_off hf)
  have HON := hideIt open_nil
  have HLI : Hid (∀ X, Off n0 n0 X → Calls Tryz.prog 13 #[.pointer (some ⟨n0, 0, none⟩)] X fun e w' => e = .returned (.slice none 0 0) ∧ Kept [] X w') := hideIt (fun X hX => hX.list)
  obtain ⟨T1, hT1⟩ : ∃ T : World → Prop, T = Made n0 3 W n0 (baseS r) := ⟨_, rfl⟩
  obtain ⟨T2, hT2⟩ : ∃ T : World → Prop, T = fun X => ∃ b S, b < 100 ∧ Made n0 b W n0 S X := ⟨_, rfl⟩
  obtain ⟨T3, hT3⟩ : ∃ T : World → Prop, T = fun X => Off n0 n0 X ∧ Below W.heap.size W X := ⟨_, rfl⟩
  replace HOP : Hid (∀ X, FsAt X n0 (.map none) (.map none) (.slice none 0 0) (.map none) 0 0 r 0 false → Kept [] W X → Calls Tryz.prog 23 #[.pointer (some ⟨n0, 0, none⟩)] X fun e w' => e = .returned (.int .i64 0) ∧ T1 w') := by rw [hT1]; exact HOP
  have HT1 : Hid (∀ X Y, T1 X → Below X.heap.size X Y → T1 Y) := hideIt (by rw [hT1]; exact fun X Y h k => h.below k)
  replace HPU : Hid (∀ X, T1 X → Calls Tryz.prog 12 #[.pointer (some ⟨n0, 0, none⟩), .string (Vc.bs raw)] X fun e w' => (r < (prP raw).size ∧ e = .returned (.tuple #[.string ⟨#[]⟩, .int .i64 33]) ∧ T2 w') ∨ ((prP raw).size ≤ r ∧ e = .returned (.tuple #[.string (Vc.bs (idL raw)), .int .i64 0]) ∧ T2 w')) := by rw [hT1, hT2]; exact HPU
  have HT2 : Hid (∀ X Y, T2 X → Below X.heap.size X Y → T2 Y) := hideIt (by rw [hT2]; exact fun X Y ⟨b, S, hb, h⟩ k => ⟨b, S, hb, h.below k⟩)
  replace HCR : Hid (∀ X, T2 X → Calls Tryz.prog 20 #[.pointer (some ⟨n0, 0, none⟩), .int .u64 0, .int .i64 0] X fun e w' => e = .returned (.tuple #[]) ∧ T3 w') := by rw [hT2, hT3]; exact HCR
  have HT3 : Hid (∀ X Y, T3 X → Kept [] X Y → T3 Y) := hideIt (by
    rw [hT3]
    exact fun X Y ⟨h1, h2⟩ k => ⟨h1.kept k, h2.trans ((Out.kept (A := fun _ => False) k).below h2.size (fun g hg => hg.elim))⟩)
  have HTB : Hid (∀ X, T3 X → Below W.heap.size W X) := hideIt (by rw [hT3]; exact fun X h => h.2)
  replace HP2 : Hid (∀ X, T3 X → Calls Tryz.prog 12 #[.pointer (some ⟨n0, 0, none⟩), .string (Vc.bs raw)] X fun e w' => e = .returned (.tuple #[.string ⟨#[]⟩, .int .i64 7]) ∧ Kept [] X w') := by rw [hT3]; exact hideIt (fun X hX => HP2.out X hX.1)
  replace HGE : Hid (∀ X, T3 X → Calls Tryz.prog 14 #[.pointer (some ⟨n0, 0, none⟩), .string (Vc.bs (idL raw))] X fun e w' => e = .returned (.tuple #[.string ⟨#[]⟩, .int .i64 7]) ∧ Kept [] X w') := by rw [hT3]; exact hideIt (fun X hX => HGE.out X hX.1)
  replace HAW : Hid (∀ X, T3 X → Calls Tryz.prog 11 #[] X fun e w' => e = .returned (.bool true) ∧ Kept [] X w') := by rw [hT3]; exact hideIt (fun X hX => HAW.out X hX.1)
  replace HO2 : Hid (∀ X, T3 X → Calls Tryz.prog 23 #[.pointer (some ⟨n0, 0, none⟩)] X fun e w' => e = .returned (.int .i64 7) ∧ Kept [] X w') := by rw [hT3]; exact hideIt (fun X hX => HO2.out X hX.1)
  replace HLI : Hid (∀ X, T3 X → Calls Tryz.prog 13 #[.pointer (some ⟨n0, 0, none⟩)] X fun e w' => e = .returned (.slice none 0 0) ∧ Kept [] X w') := by rw [hT3]; exact hideIt (fun X hX => HLI.out X hX.1)
  clear hT1 hT2 hT3 hk hn0 hz ho hraw hl hbl
  have hpz : (prP raw).size ≤ 1000000 := by omega
  clear hps hrl
  generalize prP raw = p at HPU HRP hpz
  generalize Vc.bs (idL raw) = i at HPU HGE HRI
  generalize Vc.bs raw = rr at HB HPU HP2 HRP HRI
  by_cases hfit : p.size ≤ r
  · have q1 : decide ((p.size : Int) ≤ (r : Int)) = true := decide_eq_true (by omega)
    have q2 : (p.size : Int) ≤ (r : Int) := by omega
    have HFI := hideIt hfit
    clear hfit
    go_enter Tryz.func5, Tryz.ntmps5
    go_wp2_with (first
      | (go_at_call 22; refine HNE.out.mono ?_; rintro e w1 ⟨rfl, h1, hk1, hs1⟩; have HN1 := hideIt h1; have HK1 := hideIt hk1; clear h1 hk1 hs1)
      | (go_at_call_of 23 (Value.pointer none); refine (HON.out _).mono ?_; rintro e w12 ⟨rfl, hk12⟩; have HT12 := hideIt (HT3.out _ _ HT11.out hk12); clear hk12)
      | (go_at_call 23; refine (HO2.out _ HT10.out).mono ?_; rintro e w11 ⟨rfl, hk11⟩; have HT11 := hideIt (HT3.out _ _ HT10.out hk11); clear hk11)
      | (go_at_call 23; refine (HOP.out _ HN1.out HK1.out).mono ?_; rintro e w2 ⟨rfl, ht2⟩; have HTT2 := hideIt ht2; clear ht2)
      | (go_at_call 12; refine (HP2.out _ HT6.out).mono ?_; rintro e w7 ⟨rfl, hk7⟩; have HT7 := hideIt (HT3.out _ _ HT6.out hk7); clear hk7)
      | (go_at_call 12; refine (HPU.out _ HTT3.out).mono ?_; rintro e w4 hw4; obtain ⟨rfl, ht4⟩ : e = .returned (.tuple #[.string i, .int .i64 0]) ∧ T2 w4 := hw4.elim (fun h => absurd HFI.out (by have := h.1; omega)) (fun h => h.2); have HTT4 := hideIt ht4; clear hw4 ht4)
      | (go_at_call 24; refine (HRP.out _).mono ?_; rintro e w5 ⟨rfl, hb5⟩; have HTT5 := hideIt (HT2.out _ _ HTTb.out hb5); clear hb5)
      | (go_at_call 20; refine (HCR.out _ HTT5.out).mono ?_; rintro e w6 ⟨rfl, ht6⟩; have HT5 := hideIt ht6; clear ht6)
      | (go_at_call 16; refine (HRI.out _).mono ?_; rintro e w8 ⟨rfl, hb8⟩; have HT8 := hideIt (HT3.out _ _ HT7b.out (Kept.of_below hb8)); clear hb8)
      | (go_at_call 14; refine (HGE.out _ HT8.out).mono ?_; rintro e w9 ⟨rfl, hk9⟩; have HT9 := hideIt (HT3.out _ _ HT8.out hk9); clear hk9)
      | (go_at_call 11; refine (HAW.out _ HT9.out).mono ?_; rintro e w10 ⟨rfl, hk10⟩; have HT10 := hideIt (HT3.out _ _ HT9.out hk10); clear hk10)
      | (go_at_call 13; refine (HLI.out _ HT12.out).mono ?_; rintro e w13 ⟨rfl, hk13⟩; have HT13 := hideIt (HT3.out _ _ HT12.out hk13); clear hk13)
      | (go_at_call 9; refine (HB.out _).mono ?_; rintro e wb ⟨rfl, hbb⟩; have HT7b := hideIt (HT3.out _ _ HT7.out (Kept.of_below hbb)); clear hbb)
      | (go_at_call 9; refine (HB.out _).mono ?_; rintro e wb ⟨rfl, hbb⟩; have HT6 := hideIt (HT3.out _ _ HT5.out (Kept.of_below hbb)); clear hbb)
      | (go_at_call 9; refine (HB.out _).mono ?_; rintro e wb ⟨rfl, hbb⟩; have HTTb := hideIt (HT2.out _ _ HTT4.out hbb); clear hbb)
      | (go_at_call 9; refine (HB.out _).mono ?_; rintro e wb ⟨rfl, hbb⟩; have HTT3 := hideIt (HT1.out _ _ HTT2.out hbb); clear hbb))
    go_ret
    exact ⟨rfl, HTB.out _ HT13.out⟩
  · have q1 : decide ((p.size : Int) ≤ (r : Int)) = false := decide_eq_false (by omega)
    have q2 : ¬ (p.size : Int) ≤ (r : Int) := by omega
    have q3 : decide (p.size ≤ r) = false := decide_eq_false hfit
    have q4 : ¬ p.size ≤ r := hfit
    have HFI := hideIt hfit
    clear hfit
    go_enter Tryz.func5, Tryz.ntmps5
    go_wp2_with (first
      | (go_at_call 22; refine HNE.out.mono ?_; rintro e w1 ⟨rfl, h1, hk1, hs1⟩; have HN1 := hideIt h1; have HK1 := hideIt hk1; clear h1 hk1 hs1)
      | (go_at_call_of 23 (Value.pointer none); refine (HON.out _).mono ?_; rintro e w12 ⟨rfl, hk12⟩; have HT12 := hideIt (HT3.out _ _ HT11.out hk12); clear hk12)
      | (go_at_call 23; refine (HO2.out _ HT10.out).mono ?_; rintro e w11 ⟨rfl, hk11⟩; have HT11 := hideIt (HT3.out _ _ HT10.out hk11); clear hk11)
      | (go_at_call 23; refine (HOP.out _ HN1.out HK1.out).mono ?_; rintro e w2 ⟨rfl, ht2⟩; have HTT2 := hideIt ht2; clear ht2)
      | (go_at_call 12; refine (HP2.out _ HT6.out).mono ?_; rintro e w7 ⟨rfl, hk7⟩; have HT7 := hideIt (HT3.out _ _ HT6.out hk7); clear hk7)
      | (go_at_call 12; refine (HPU.out _ HTT3.out).mono ?_; rintro e w4 hw4; obtain ⟨rfl, ht4⟩ : e = .returned (.tuple #[.string ⟨#[]⟩, .int .i64 33]) ∧ T2 w4 := hw4.elim (fun h => h.2) (fun h => absurd h.1 HFI.out); have HTT4 := hideIt ht4; clear hw4 ht4)
      | (go_at_call 24; refine (HRP.out _).mono ?_; rintro e w5 ⟨rfl, hb5⟩; have HTT5 := hideIt (HT2.out _ _ HTTb.out hb5); clear hb5)
      | (go_at_call 20; refine (HCR.out _ HTT5.out).mono ?_; rintro e w6 ⟨rfl, ht6⟩; have HT5 := hideIt ht6; clear ht6)
      | (go_at_call 16; refine (HRI.out _).mono ?_; rintro e w8 ⟨rfl, hb8⟩; have HT8 := hideIt (HT3.out _ _ HT7b.out (Kept.of_below hb8)); clear hb8)
      | (go_at_call 14; refine (HGE.out _ HT8.out).mono ?_; rintro e w9 ⟨rfl, hk9⟩; have HT9 := hideIt (HT3.out _ _ HT8.out hk9); clear hk9)
      | (go_at_call 11; refine (HAW.out _ HT9.out).mono ?_; rintro e w10 ⟨rfl, hk10⟩; have HT10 := hideIt (HT3.out _ _ HT9.out hk10); clear hk10)
      | (go_at_call 13; refine (HLI.out _ HT12.out).mono ?_; rintro e w13 ⟨rfl, hk13⟩; have HT13 := hideIt (HT3.out _ _ HT12.out hk13); clear hk13)
      | (go_at_call 9; refine (HB.out _).mono ?_; rintro e wb ⟨rfl, hbb⟩; have HT7b := hideIt (HT3.out _ _ HT7.out (Kept.of_below hbb)); clear hbb)
      | (go_at_call 9; refine (HB.out _).mono ?_; rintro e wb ⟨rfl, hbb⟩; have HT6 := hideIt (HT3.out _ _ HT5.out (Kept.of_below hbb)); clear hbb)
      | (go_at_call 9; refine (HB.out _).mono ?_; rintro e wb ⟨rfl, hbb⟩; have HTTb := hideIt (HT2.out _ _ HTT4.out hbb); clear hbb)
      | (go_at_call 9; refine (HB.out _).mono ?_; rintro e wb ⟨rfl, hbb⟩; have HTT3 := hideIt (HT1.out _ _ HTT2.out hbb); clear hbb))
    go_ret
    exact ⟨by first | rfl | (simp [HFI.out]), HTB.out _ HT13.out⟩
end Go.Proofs.YtbmhhlkjgnijgaaGreatDoor.Lo
