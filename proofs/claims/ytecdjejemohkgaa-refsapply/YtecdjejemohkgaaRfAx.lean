/- Refs: the law's waking test: walked. -/
import Derived.Test.YtecdjejemohkgaaRfAw
namespace Go.Proofs.Ytecdjejemohkgaa.Rf
open Cb Go.RowKit Go.Shelf
/-- heads/main -/
def mainS : ByteArray := ⟨#[104, 101, 97, 100, 115, 47, 109, 97, 105, 110]⟩
theorem main_head : headB mainS = true := by
  rw [head_has, hasH, ByteArray.toList_eq, okRef]
  decide +kernel
theorem main_ok : okN mainS = true := by rw [okN, main_head]; rfl
theorem id_emp (c : UInt8) : emp (idS c) = false := by
  cases h : emp (idS c) with
  | false => rfl
  | true => have := congrArg ByteArray.size ((emp_iff _).1 h); rw [idS_size] at this; cases this
def aU (c : UInt8) : Up := ⟨mainS, ⟨#[]⟩, idS c, false⟩
theorem ask_a (c : UInt8) : ask [] (aU c) = 0 := by
  rw [ask, if_neg (by simp [hasN]), if_neg (by show ¬ okN mainS = false; rw [main_ok]; decide), if_neg]
  rintro (⟨_, h⟩ | ⟨h, _⟩)
  · have : (idS c).size = 32 := idS_size c
    exact absurd (decide_eq_true this) (by rw [show decide ((idS c).size = 32) = false from h]; decide)
  · rw [show emp (aU c).new = false from id_emp c] at h; cases h
theorem app_one (c : UInt8) (f : ByteArray → ByteArray → Bool) : appP f mainS [] [aU c] = (0, [⟨mainS, idS c⟩]) := by
  have hc : chkR mainS [] = 0 := by rw [chkR, if_neg (by simp), if_pos main_head]; rfl
  have hu : upd mainS [] [] (aU c) f = 0 := by
    rw [upd, if_pos (ask_a c), why2, if_neg (by simp [getR, aU]), if_neg (by rintro ⟨h, _⟩; rw [show emp (aU c).new = false from id_emp c] at h; cases h), if_pos (.inr (.inl ((emp_iff _).2 rfl)))]
  have hm : movR [] (aU c) = [⟨mainS, idS c⟩] := by
    rw [movR, if_neg (by rw [show emp (aU c).new = false from id_emp c]; decide)]
    rfl
  have ha : appR f mainS [] [] [aU c] = (0, [⟨mainS, idS c⟩]) := by
    rw [appR, if_pos hu, hm]
    rfl
  rw [appP, if_neg (by simp), if_neg (by rw [hc]; simp), ha]
  simp
theorem app_two (c d : UInt8) (f : ByteArray → ByteArray → Bool) : appP f mainS [⟨mainS, idS c⟩] [aU d] = (130, [⟨mainS, idS c⟩]) := by
  have hs : stepR none ⟨mainS, idS c⟩ = 0 := step_first main_ok (decide_eq_true (idS_size c))
  have hc : chkR mainS [⟨mainS, idS c⟩] = 0 := by
    rw [chkR, if_neg (by simp), if_pos main_head, chkL, if_pos hs]
    rfl
  have hne : ¬ idS c = ⟨#[]⟩ := fun e => by have := congrArg ByteArray.size e; rw [idS_size] at this; cases this
  have hu : upd mainS [⟨mainS, idS c⟩] [] (aU d) f = 130 := by
    rw [upd, if_pos (ask_a d), why2, if_pos]
    show ¬ getR [⟨mainS, idS c⟩] mainS = ⟨#[]⟩
    rw [getR, if_pos rfl]
    exact hne
  have ha : appR f mainS [⟨mainS, idS c⟩] [] [aU d] = (130, [⟨mainS, idS c⟩]) := by
    rw [appR, if_neg (by rw [hu]; decide), hu]
  rw [appP, if_neg (by simp), if_neg (by rw [hc]; simp), ha]
  simp
theorem box_set {w : World} {b : Nat} {u v x y : Value} {t : TypeId} (h : w.heap[b]? = some (.cells #[u, v] t (0, 0))) : ((w.setCell ⟨b, 0, none⟩ x).setCell ⟨b, 1, none⟩ y).heap[b]? = some (.cells #[x, y] t (0, 0)) := by
  rw [heap_setCell_same _ b 1 _ t _ (heap_setCell_same w b 0 _ t _ h)]
  rfl
theorem own_two_lt {w : World} {B n k b : Nat} {t : TypeId} {v x y : Value} {xs : List Value} (h : w.ownsRow B t k v n xs) (hb : b < B) : ((w.setCell ⟨b, 0, none⟩ x).setCell ⟨b, 1, none⟩ y).ownsRow B t k v n xs := own_other (own_other h ⟨b, 0, none⟩ hb _) ⟨b, 1, none⟩ hb _
theorem own_two_new {w : World} {B n k : Nat} {t : TypeId} {v x y : Value} {xs : List Value} {o : Obj} (h : w.ownsRow B t k v n xs) : (((w.alloc o).setCell ⟨w.heap.size, 0, none⟩ x).setCell ⟨w.heap.size, 1, none⟩ y).ownsRow B t k v n xs :=
  own_set_ne (own_set_ne (own_below h (new_below w o)) _ (fun e => Nat.lt_irrefl _ (own_block_lt h e)) _) _ (fun e => Nat.lt_irrefl _ (own_block_lt h e)) _
theorem set_one {B b : Nat} {w0 w : World} {x : Value} (h : Below B w0 w) (hb : B ≤ b) : Below B w0 (w.setCell ⟨b, 0, none⟩ x) := h.setCell (p := ⟨b, 0, none⟩) hb _
theorem set_two {B b : Nat} {w0 w : World} {x y : Value} (h : Below B w0 w) (hb : B ≤ b) : Below B w0 ((w.setCell ⟨b, 0, none⟩ x).setCell ⟨b, 1, none⟩ y) := (h.setCell (p := ⟨b, 0, none⟩) hb _).setCell (p := ⟨b, 1, none⟩) hb _
theorem at0 (V : World) (U : Obj) : (V.alloc U).heap[V.heap.size]? = some U := alloc_at rfl
theorem at1 (V : World) (U T : Obj) : ((V.alloc U).alloc T).heap[V.heap.size]? = some U := (Below.heap_alloc _ _ _ (by simp)).trans (alloc_at rfl)
theorem at2 (V : World) (T U : Obj) : ((V.alloc T).alloc U).heap[V.heap.size + 1]? = some U := alloc_at (by simp)
theorem kept_new {X w2 : World} {T : Obj} (h : Below (X.alloc T).drew.heap.size (X.alloc T).drew w2) : w2.heap[X.heap.size]? = some T := (h.block _ (by simp [World.drew])).trans (alloc_at (w := X) rfl)
theorem below_new_drew {X w2 : World} {T : Obj} (h : Below (X.alloc T).drew.heap.size (X.alloc T).drew w2) : Below X.heap.size X w2 :=
  below_step (a := (X.alloc T).drew) ((new_below X T).trans ⟨rfl, rfl, rfl, Nat.le_refl _, fun _ _ => rfl⟩) (Nat.le_refl _) h
theorem below_drew2 {X w2 : World} (h : Below X.drew.heap.size X.drew w2) : Below X.heap.size X w2 :=
  below_step (a := X.drew) ⟨rfl, rfl, rfl, Nat.le_refl _, fun _ _ => rfl⟩ (Nat.le_refl _) h
theorem kept_one {V w3 : World} {U T : Obj} {b : Nat} (h : V.heap[b]? = some T) (hb : Below (V.alloc U).heap.size (V.alloc U) w3) : w3.heap[b]? = some T := by
  have := block_lt h
  exact (hb.block _ (by simp; omega)).trans ((Below.heap_alloc V _ _ this).trans h)
theorem kept_two {V w3 : World} {U T : Obj} (hb : Below ((V.alloc T).alloc U).heap.size ((V.alloc T).alloc U) w3) : w3.heap[V.heap.size]? = some T := (hb.block _ (by simp; omega)).trans (at1 V T U)
theorem kept_three {V w3 : World} {U T : Obj} (hb : Below ((V.alloc U).alloc T).heap.size ((V.alloc U).alloc T) w3) : w3.heap[V.heap.size + 1]? = some T := (hb.block _ (by simp)).trans (at2 V U T)
/-- One update that lies at a block's beginning. -/
theorem one_urow (X : World) (g : Nat) (u : Up) (hX : X.heap[g]? = some (.cells #[.string u.nm, .string u.old, .string u.new, .bool u.force] 34 (0, 0))) : URow X (.slice (some ⟨g, 0, none⟩) 1 1) [u] := by
  refine ⟨rfl, some ⟨g, 0, none⟩, 1, rfl, Nat.le_refl _, ⟨by unfold maxLen; omega, fun h => by cases h⟩, fun _ => ⟨g, 0, rfl, block_lt hX, fun i v hv => ?_⟩⟩
  rw [Nat.zero_add]
  refine cellAt hX ?_
  simpa [upsV, upV] using hv
/-- Refs that a call hands back with an error, in a row of their own. -/
def AppIs (w : World) (hd : ByteArray) (E : Int) (L : List Rf) (e : Ending) (w' : World) : Prop := ∃ a c, e = .returned (.tuple #[.agg #[.string hd, .slice a L.length c], .int .i64 E]) ∧ w'.ownsRow w.heap.size 59 2 (.slice a L.length c) L.length (rfsV L) ∧ Below w.heap.size w w'
theorem appTo_is {w : World} {hd : ByteArray} {E : Int} {L : List Rf} {e : Ending} {w' : World} (h : AppTo w hd (E, L) e w') : AppIs w hd E L e w' := by
  obtain ⟨v, e1, h1, h2⟩ := h
  obtain ⟨a, c, hv⟩ := own_slice h1
  subst hv
  exact ⟨a, c, e1, h1, h2⟩
theorem nil_row (w : World) : RRow w (.slice none 0 0) [] := VRow.of_row (own_nil w 0 59 2)
set_option maxHeartbeats 3200000 in
set_option maxRecDepth 100000 in
theorem awake_any (w : World) : Calls Try.prog 12 #[] w fun e w' => e = .returned (.bool true) ∧ Below w.heap.size w w' := by
  have HI1 : Hid (∀ w, Calls Try.prog 21 #[.int .u8 97] w fun e w' => e = .returned (.string (idS 97)) ∧ Below w.heap.size w w') := hideIt (fun w => id_any 97 w)
  have HI2 : Hid (∀ w, Calls Try.prog 21 #[.int .u8 98] w fun e w' => e = .returned (.string (idS 98)) ∧ Below w.heap.size w w') := hideIt (fun w => id_any 98 w)
  have hs1 := idS_size 97
  have hs2 := idS_size 98
  have HA1 : Hid (∀ (W : World) (g : Nat), W.heap[g]? = some (.cells #[.string mainS, .string ⟨#[]⟩, .string (idS 97), .bool false] 34 (0, 0)) → Calls Try.prog 8 #[.agg #[.string ⟨#[104, 101, 97, 100, 115, 47, 109, 97, 105, 110]⟩, .slice none 0 0], .slice (some ⟨g, 0, none⟩) 1 1, .func (.func 29) #[] #[]] W fun e w' => AppIs W mainS 0 [⟨mainS, idS 97⟩] e w') := hideIt (fun W g hg => by
    refine (apply_any mainS (.slice none 0 0) [] (.slice (some ⟨g, 0, none⟩) 1 1) [aU 97] 29 #[] (fun _ _ => false) _ (nil_row _) (by simp) (one_urow W g (aU 97) hg) (by simp) (fwd_never _) (by decide) (by simp)).mono ?_
    intro e w' h
    rw [app_one] at h
    exact appTo_is h)
  have HA2 : Hid (∀ (W : World) (g : Nat) a c, RRow W (.slice a 1 c) [⟨mainS, idS 97⟩] → W.heap[g]? = some (.cells #[.string mainS, .string ⟨#[]⟩, .string (idS 98), .bool false] 34 (0, 0)) → Calls Try.prog 8 #[.agg #[.string ⟨#[104, 101, 97, 100, 115, 47, 109, 97, 105, 110]⟩, .slice a 1 c], .slice (some ⟨g, 0, none⟩) 1 1, .func (.func 29) #[] #[]] W fun e w' => AppIs W mainS 130 [⟨mainS, idS 97⟩] e w') := hideIt (fun W g a c hr hg => by
    refine (apply_any mainS (.slice a 1 c) [⟨mainS, idS 97⟩] (.slice (some ⟨g, 0, none⟩) 1 1) [aU 98] 29 #[] (fun _ _ => false) _ hr (by simp) (one_urow W g (aU 98) hg) (by simp) (fwd_never _) (by decide) (fun i x hx => ?_)).mono ?_
    · cases i with
      | zero => obtain rfl : (⟨mainS, idS 97⟩ : Rf) = x := by simpa using hx
                exact ⟨by show mainS.size ≤ _; decide, by show (idS 97).size ≤ _; omega⟩
      | succ i => simp at hx
    · intro e w' h
      rw [app_two] at h
      exact appTo_is h)
  have HG : Hid (∀ (W : World) a c, RRow W (.slice a 1 c) [⟨mainS, idS 97⟩] → Calls Try.prog 19 #[.agg #[.string ⟨#[104, 101, 97, 100, 115, 47, 109, 97, 105, 110]⟩, .slice a 1 c], .string ⟨#[104, 101, 97, 100, 115, 47, 109, 97, 105, 110]⟩] W fun e w' => e = .returned (.string (idS 97)) ∧ Below W.heap.size W w') := hideIt (fun W a c hr => by
    refine (get_any mainS (.slice a 1 c) [⟨mainS, idS 97⟩] mainS W hr (by simp) (fun i x hx => ?_)).mono ?_
    · cases i with
      | zero => obtain rfl : (⟨mainS, idS 97⟩ : Rf) = x := by simpa using hx
                show (idS 97).size ≤ _
                omega
      | succ i => simp at hx
    · rintro e w' ⟨rfl, hb⟩
      exact ⟨by rw [getR, if_pos rfl], hb⟩)
  obtain ⟨A, hA⟩ : ∃ A, idS 97 = A := ⟨_, rfl⟩
  obtain ⟨C, hC⟩ : ∃ C, idS 98 = C := ⟨_, rfl⟩
  rw [hA] at HI1 HA1 HA2 HG hs1
  rw [hC] at HI2 HA2 hs2
  have HAI : Hid (∀ W E e w', AppIs W mainS E [⟨mainS, A⟩] e w' ↔ ∃ a c, e = .returned (.tuple #[.agg #[.string ⟨#[104, 101, 97, 100, 115, 47, 109, 97, 105, 110]⟩, .slice a 1 c], .int .i64 E]) ∧ w'.ownsRow W.heap.size 59 2 (.slice a 1 c) 1 (rfsV [⟨mainS, A⟩]) ∧ Below W.heap.size W w') := hideIt (fun _ _ _ _ => Iff.rfl)
  clear hA hC
  obtain ⟨X0, hX0⟩ : ∃ X0, w.alloc (.cells #[.string ⟨#[104, 101, 97, 100, 115, 47, 109, 97, 105, 110]⟩, .slice none 0 0] 24) = X0 := ⟨_, rfl⟩
  have HX0 := hideIt hX0
  have HBW : Hid (Below w.heap.size w X0) := hideIt (by rw [← hX0]; exact new_below w _)
  have hx0 : X0.heap[w.heap.size]? = some (.cells #[.string ⟨#[104, 101, 97, 100, 115, 47, 109, 97, 105, 110]⟩, .slice none 0 0] 24 (0, 0)) := by rw [← hX0]; exact alloc_at rfl
  have HK1 : Hid (∀ w', Below X0.heap.size X0 w' → w'.cell? ⟨w.heap.size, 0, none⟩ = some (.string ⟨#[104, 101, 97, 100, 115, 47, 109, 97, 105, 110]⟩) ∧ w'.cell? ⟨w.heap.size, 1, none⟩ = some (.slice none 0 0)) := hideIt (fun w' hb => by
    have := (hb.block _ (block_lt hx0)).trans hx0
    exact ⟨cellAt this rfl, cellAt this rfl⟩)
  obtain ⟨x0, x1⟩ := HK1.out X0 (Below.refl _ _)
  have HDA : Hid (Below X0.heap.size X0 X0.drew) := hideIt ⟨rfl, rfl, rfl, Nat.le_refl _, fun _ _ => rfl⟩
  clear hX0 hx0
  go_enter Try.func12, Try.ntmps12
  go_upto_region 3 with fail
  rw [HX0.out]
  go_cut [3, 4] from 8 to 16 (fun p q wx => ∃ b a c, p = .pointer (some ⟨b, 0, none⟩) ∧ q = .int .i64 0 ∧ wx.heap[b]? = some (.cells #[.string ⟨#[104, 101, 97, 100, 115, 47, 109, 97, 105, 110]⟩, .slice a 1 c] 24 (0, 0)) ∧ RRow wx (.slice a 1 c) [⟨mainS, A⟩] ∧ Below X0.heap.size X0 wx)
  case first =>
    go_region_held3 (fun X => X.cell? ⟨w.heap.size, 0, none⟩ = some (.string ⟨#[104, 101, 97, 100, 115, 47, 109, 97, 105, 110]⟩) ∧ X.cell? ⟨w.heap.size, 1, none⟩ = some (.slice none 0 0)) (first | exact HK1.out _ HDA.out | assumption | exact HK1.out _ (HBA.out) | exact HK1.out _ (HCA.out) | exact HK1.out _ (below_step HBA.out (Nat.le_refl _) (new_below _ _)) | exact HK1.out _ (below_step (below_step HBA.out (Nat.le_refl _) (new_below _ _)) (Nat.le_refl _) (new_below _ _)) | exact HK1.out _ ((below_step HCA.out (Nat.le_refl _) (new_below _ _))) | exact HK1.out _ (set_one HCA.out (by have := HCA.out.size; have := HBA.out.size; first | omega | (simp; omega))) | exact HK1.out _ (set_two HCA.out (by have := HCA.out.size; have := HBA.out.size; first | omega | (simp; omega))) | exact HK1.out _ (set_one (below_step HCA.out (Nat.le_refl _) (new_below _ _)) (by have := HCA.out.size; have := HBA.out.size; first | omega | (simp; omega))) | exact HK1.out _ (set_two (below_step HCA.out (Nat.le_refl _) (new_below _ _)) (by have := HCA.out.size; have := HBA.out.size; first | omega | (simp; omega))) | go_keep) (first
      | (go_at_call 21; refine (HI1.out _).mono ?_; rintro e w2A ⟨rfl, hb2⟩; have T3A : Hid (w2A.heap[X0.heap.size]? = some (.cells #[.string ⟨#[]⟩, .slice none 0 0] 24 (0, 0))) := hideIt (kept_new hb2); have HBA : Hid (Below X0.heap.size X0 w2A) := hideIt (below_new_drew hb2); obtain ⟨fa0, fa1⟩ := HK1.out w2A (HBA.out); obtain ⟨fb0, fb1⟩ := HK1.out (w2A.alloc (.cells #[.string ⟨#[]⟩, .slice none 0 0] 24)) (below_step HBA.out (Nat.le_refl _) (new_below w2A _)); obtain ⟨fc0, fc1⟩ := HK1.out (w2A.alloc (.cells #[.string ⟨#[104, 101, 97, 100, 115, 47, 109, 97, 105, 110]⟩, .string ⟨#[]⟩, .string A, .bool false] 34)) (below_step HBA.out (Nat.le_refl _) (new_below w2A _)); obtain ⟨fd0, fd1⟩ := HK1.out ((w2A.alloc (.cells #[.string ⟨#[]⟩, .slice none 0 0] 24)).alloc (.cells #[.string ⟨#[104, 101, 97, 100, 115, 47, 109, 97, 105, 110]⟩, .string ⟨#[]⟩, .string A, .bool false] 34)) (below_step (below_step HBA.out (Nat.le_refl _) (new_below w2A _)) (Nat.le_refl _) (new_below _ _)); obtain ⟨fe0, fe1⟩ := HK1.out ((w2A.alloc (.cells #[.string ⟨#[104, 101, 97, 100, 115, 47, 109, 97, 105, 110]⟩, .string ⟨#[]⟩, .string A, .bool false] 34)).alloc (.cells #[.string ⟨#[]⟩, .slice none 0 0] 24)) (below_step (below_step HBA.out (Nat.le_refl _) (new_below w2A _)) (Nat.le_refl _) (new_below _ _)); clear hb2)
      | (go_at_call 21; refine (HI1.out _).mono ?_; rintro e w2A ⟨rfl, hb2⟩; have HBA : Hid (Below X0.heap.size X0 w2A) := hideIt (below_drew2 hb2); obtain ⟨fa0, fa1⟩ := HK1.out w2A (HBA.out); obtain ⟨fb0, fb1⟩ := HK1.out (w2A.alloc (.cells #[.string ⟨#[]⟩, .slice none 0 0] 24)) (below_step HBA.out (Nat.le_refl _) (new_below w2A _)); obtain ⟨fc0, fc1⟩ := HK1.out (w2A.alloc (.cells #[.string ⟨#[104, 101, 97, 100, 115, 47, 109, 97, 105, 110]⟩, .string ⟨#[]⟩, .string A, .bool false] 34)) (below_step HBA.out (Nat.le_refl _) (new_below w2A _)); obtain ⟨fd0, fd1⟩ := HK1.out ((w2A.alloc (.cells #[.string ⟨#[]⟩, .slice none 0 0] 24)).alloc (.cells #[.string ⟨#[104, 101, 97, 100, 115, 47, 109, 97, 105, 110]⟩, .string ⟨#[]⟩, .string A, .bool false] 34)) (below_step (below_step HBA.out (Nat.le_refl _) (new_below w2A _)) (Nat.le_refl _) (new_below _ _)); obtain ⟨fe0, fe1⟩ := HK1.out ((w2A.alloc (.cells #[.string ⟨#[104, 101, 97, 100, 115, 47, 109, 97, 105, 110]⟩, .string ⟨#[]⟩, .string A, .bool false] 34)).alloc (.cells #[.string ⟨#[]⟩, .slice none 0 0] 24)) (below_step (below_step HBA.out (Nat.le_refl _) (new_below w2A _)) (Nat.le_refl _) (new_below _ _)); clear hb2)
      | (go_at_call 8; refine (HA1.out _ _ (by first | exact at0 _ _ | exact at1 _ _ _ | exact at2 _ _ _)).mono ?_; intro e w3A hq; obtain ⟨p1, p2, he, hr3, hb3⟩ := (HAI.out _ _ _ _).1 hq; subst he; have HRA := hideIt hr3; have T4 : w3A.heap[X0.heap.size]? = some (.cells #[.string ⟨#[]⟩, .slice none 0 0] 24 (0, 0)) := kept_one T3A.out hb3; have k0 := cellAt (i := 0) T4 rfl; have k1 := cellAt (i := 1) T4 rfl; have z0 := frz T4 0; have z1 := frz T4 1; have HT4A := hideIt T4; clear T4; have HCA : Hid (Below X0.heap.size X0 w3A) := hideIt (below_step (below_step HBA.out (Nat.le_refl _) (new_below w2A _)) (Nat.le_refl _) hb3); clear hb3 hq hr3)
      | (go_at_call 8; refine (HA1.out _ _ (by first | exact at0 _ _ | exact at1 _ _ _ | exact at2 _ _ _)).mono ?_; intro e w3A hq; obtain ⟨p1, p2, he, hr3, hb3⟩ := (HAI.out _ _ _ _).1 hq; subst he; have HRA := hideIt hr3; have T4 : w3A.heap[w2A.heap.size]? = some (.cells #[.string ⟨#[]⟩, .slice none 0 0] 24 (0, 0)) := kept_two hb3; have k0 := cellAt (i := 0) T4 rfl; have k1 := cellAt (i := 1) T4 rfl; have z0 := frz T4 0; have z1 := frz T4 1; have HT4A := hideIt T4; clear T4; have HCA : Hid (Below X0.heap.size X0 w3A) := hideIt (below_step (below_step (below_step HBA.out (Nat.le_refl _) (new_below w2A _)) (Nat.le_refl _) (new_below _ _)) (Nat.le_refl _) hb3); clear hb3 hq hr3)
      | (go_at_call 8; refine (HA1.out _ _ (by first | exact at0 _ _ | exact at1 _ _ _ | exact at2 _ _ _)).mono ?_; intro e w3A hq; obtain ⟨p1, p2, he, hr3, hb3⟩ := (HAI.out _ _ _ _).1 hq; subst he; have HRA := hideIt hr3; have T4 : w3A.heap[(w2A.heap.size + 1)]? = some (.cells #[.string ⟨#[]⟩, .slice none 0 0] 24 (0, 0)) := kept_three hb3; have k0 := cellAt (i := 0) T4 rfl; have k1 := cellAt (i := 1) T4 rfl; have z0 := frz T4 0; have z1 := frz T4 1; have HT4A := hideIt T4; clear T4; have HCA : Hid (Below X0.heap.size X0 w3A) := hideIt (below_step (below_step (below_step HBA.out (Nat.le_refl _) (new_below w2A _)) (Nat.le_refl _) (new_below _ _)) (Nat.le_refl _) hb3); clear hb3 hq hr3)
      | (go_at_call 8; refine (HA1.out _ _ (by first | exact at0 _ _ | exact at1 _ _ _ | exact at2 _ _ _)).mono ?_; intro e w3A hq; obtain ⟨p1, p2, he, hr3, hb3⟩ := (HAI.out _ _ _ _).1 hq; subst he; have HRA := hideIt hr3; have HCA : Hid (Below X0.heap.size X0 w3A) := hideIt (below_step (below_step HBA.out (Nat.le_refl _) (new_below w2A _)) (Nat.le_refl _) hb3); clear hb3 hq hr3))
    all_goals go_wp2_with fail
    all_goals go_meet
    all_goals first
      | exact ⟨_, p1, p2, rfl, rfl, box_set HT4A.out, VRow.of_row (own_two_lt HRA.out (by have := HBA.out.size; first | omega | (simp; done) | (simp; omega))), set_two HCA.out (by have := HCA.out.size; have := HBA.out.size; first | omega | (simp; omega))⟩
      | exact ⟨_, p1, p2, rfl, rfl, alloc_at rfl, VRow.of_row (own_below HRA.out (new_below _ _)), below_step HCA.out (Nat.le_refl _) (new_below _ _)⟩
      | exact ⟨_, p1, p2, rfl, rfl, box_set (alloc_at rfl), VRow.of_row (own_two_new HRA.out), set_two (below_step HCA.out (Nat.le_refl _) (new_below _ _)) (by have := HCA.out.size; have := HBA.out.size; first | omega | (simp; omega))⟩
  case rest =>
    obtain ⟨b, pa, pc, rfl, rfl, hbx, hrx, hbel⟩ := hcut
    have HBL := hideIt hbel
    have HRX : Hid (∀ w', Below wc.heap.size wc w' → RRow w' (.slice pa 1 pc) [⟨mainS, A⟩]) := hideIt (fun w' hb => hrx.below hb)
    have HK2 : Hid (∀ w', Below wc.heap.size wc w' → w'.cell? ⟨b, 0, none⟩ = some (.string ⟨#[104, 101, 97, 100, 115, 47, 109, 97, 105, 110]⟩) ∧ w'.cell? ⟨b, 1, none⟩ = some (.slice pa 1 pc)) := hideIt (fun w' hb => by
      have := (hb.block _ (block_lt hbx)).trans hbx
      exact ⟨cellAt this rfl, cellAt this rfl⟩)
    obtain ⟨y0, y1⟩ := HK2.out wc (Below.refl _ _)
    have HDC : Hid (Below wc.heap.size wc wc.drew) := hideIt ⟨rfl, rfl, rfl, Nat.le_refl _, fun _ _ => rfl⟩
    clear hbx hrx hbel x0 x1
    go_upto_region 4 with fail
    go_cut [5, 6] from 17 to 25 (fun _ q wy => q = .int .i64 130 ∧ Below wc.heap.size wc wy)
    case first =>
      go_region_held3 (fun X => X.cell? ⟨b, 0, none⟩ = some (.string ⟨#[104, 101, 97, 100, 115, 47, 109, 97, 105, 110]⟩) ∧ X.cell? ⟨b, 1, none⟩ = some (.slice pa 1 pc)) (first | exact HK2.out _ HDC.out | assumption | exact HK2.out _ (HBC.out) | exact HK2.out _ (HCC.out) | exact HK2.out _ (below_step HBC.out (Nat.le_refl _) (new_below _ _)) | exact HK2.out _ (below_step (below_step HBC.out (Nat.le_refl _) (new_below _ _)) (Nat.le_refl _) (new_below _ _)) | exact HK2.out _ ((below_step HCC.out (Nat.le_refl _) (new_below _ _))) | exact HK2.out _ (set_one HCC.out (by have := HCC.out.size; have := HBC.out.size; first | omega | (simp; omega))) | exact HK2.out _ (set_two HCC.out (by have := HCC.out.size; have := HBC.out.size; first | omega | (simp; omega))) | exact HK2.out _ (set_one (below_step HCC.out (Nat.le_refl _) (new_below _ _)) (by have := HCC.out.size; have := HBC.out.size; first | omega | (simp; omega))) | exact HK2.out _ (set_two (below_step HCC.out (Nat.le_refl _) (new_below _ _)) (by have := HCC.out.size; have := HBC.out.size; first | omega | (simp; omega))) | go_keep) (first
        | (go_at_call 21; refine (HI2.out _).mono ?_; rintro e w2C ⟨rfl, hb2⟩; have T3C : Hid (w2C.heap[wc.heap.size]? = some (.cells #[.string ⟨#[]⟩, .slice none 0 0] 24 (0, 0))) := hideIt (kept_new hb2); have HBC : Hid (Below wc.heap.size wc w2C) := hideIt (below_new_drew hb2); obtain ⟨fa0, fa1⟩ := HK2.out w2C (HBC.out); obtain ⟨fb0, fb1⟩ := HK2.out (w2C.alloc (.cells #[.string ⟨#[]⟩, .slice none 0 0] 24)) (below_step HBC.out (Nat.le_refl _) (new_below w2C _)); obtain ⟨fc0, fc1⟩ := HK2.out (w2C.alloc (.cells #[.string ⟨#[104, 101, 97, 100, 115, 47, 109, 97, 105, 110]⟩, .string ⟨#[]⟩, .string C, .bool false] 34)) (below_step HBC.out (Nat.le_refl _) (new_below w2C _)); obtain ⟨fd0, fd1⟩ := HK2.out ((w2C.alloc (.cells #[.string ⟨#[]⟩, .slice none 0 0] 24)).alloc (.cells #[.string ⟨#[104, 101, 97, 100, 115, 47, 109, 97, 105, 110]⟩, .string ⟨#[]⟩, .string C, .bool false] 34)) (below_step (below_step HBC.out (Nat.le_refl _) (new_below w2C _)) (Nat.le_refl _) (new_below _ _)); obtain ⟨fe0, fe1⟩ := HK2.out ((w2C.alloc (.cells #[.string ⟨#[104, 101, 97, 100, 115, 47, 109, 97, 105, 110]⟩, .string ⟨#[]⟩, .string C, .bool false] 34)).alloc (.cells #[.string ⟨#[]⟩, .slice none 0 0] 24)) (below_step (below_step HBC.out (Nat.le_refl _) (new_below w2C _)) (Nat.le_refl _) (new_below _ _)); clear hb2)
        | (go_at_call 21; refine (HI2.out _).mono ?_; rintro e w2C ⟨rfl, hb2⟩; have HBC : Hid (Below wc.heap.size wc w2C) := hideIt (below_drew2 hb2); obtain ⟨fa0, fa1⟩ := HK2.out w2C (HBC.out); obtain ⟨fb0, fb1⟩ := HK2.out (w2C.alloc (.cells #[.string ⟨#[]⟩, .slice none 0 0] 24)) (below_step HBC.out (Nat.le_refl _) (new_below w2C _)); obtain ⟨fc0, fc1⟩ := HK2.out (w2C.alloc (.cells #[.string ⟨#[104, 101, 97, 100, 115, 47, 109, 97, 105, 110]⟩, .string ⟨#[]⟩, .string C, .bool false] 34)) (below_step HBC.out (Nat.le_refl _) (new_below w2C _)); obtain ⟨fd0, fd1⟩ := HK2.out ((w2C.alloc (.cells #[.string ⟨#[]⟩, .slice none 0 0] 24)).alloc (.cells #[.string ⟨#[104, 101, 97, 100, 115, 47, 109, 97, 105, 110]⟩, .string ⟨#[]⟩, .string C, .bool false] 34)) (below_step (below_step HBC.out (Nat.le_refl _) (new_below w2C _)) (Nat.le_refl _) (new_below _ _)); obtain ⟨fe0, fe1⟩ := HK2.out ((w2C.alloc (.cells #[.string ⟨#[104, 101, 97, 100, 115, 47, 109, 97, 105, 110]⟩, .string ⟨#[]⟩, .string C, .bool false] 34)).alloc (.cells #[.string ⟨#[]⟩, .slice none 0 0] 24)) (below_step (below_step HBC.out (Nat.le_refl _) (new_below w2C _)) (Nat.le_refl _) (new_below _ _)); clear hb2)
        | (go_at_call 8; refine (HA2.out _ _ pa pc (HRX.out _ (by first | exact below_step HBC.out (Nat.le_refl _) (new_below _ _) | exact below_step (below_step HBC.out (Nat.le_refl _) (new_below _ _)) (Nat.le_refl _) (new_below _ _))) (by first | exact at0 _ _ | exact at1 _ _ _ | exact at2 _ _ _)).mono ?_; intro e w3C hq; obtain ⟨p1, p2, he, hr3, hb3⟩ := (HAI.out _ _ _ _).1 hq; subst he; have HRC := hideIt hr3; have T4 : w3C.heap[wc.heap.size]? = some (.cells #[.string ⟨#[]⟩, .slice none 0 0] 24 (0, 0)) := kept_one T3C.out hb3; have k0 := cellAt (i := 0) T4 rfl; have k1 := cellAt (i := 1) T4 rfl; have z0 := frz T4 0; have z1 := frz T4 1; have HT4C := hideIt T4; clear T4; have HCC : Hid (Below wc.heap.size wc w3C) := hideIt (below_step (below_step HBC.out (Nat.le_refl _) (new_below w2C _)) (Nat.le_refl _) hb3); clear hb3 hq hr3)
        | (go_at_call 8; refine (HA2.out _ _ pa pc (HRX.out _ (by first | exact below_step HBC.out (Nat.le_refl _) (new_below _ _) | exact below_step (below_step HBC.out (Nat.le_refl _) (new_below _ _)) (Nat.le_refl _) (new_below _ _))) (by first | exact at0 _ _ | exact at1 _ _ _ | exact at2 _ _ _)).mono ?_; intro e w3C hq; obtain ⟨p1, p2, he, hr3, hb3⟩ := (HAI.out _ _ _ _).1 hq; subst he; have HRC := hideIt hr3; have T4 : w3C.heap[w2C.heap.size]? = some (.cells #[.string ⟨#[]⟩, .slice none 0 0] 24 (0, 0)) := kept_two hb3; have k0 := cellAt (i := 0) T4 rfl; have k1 := cellAt (i := 1) T4 rfl; have z0 := frz T4 0; have z1 := frz T4 1; have HT4C := hideIt T4; clear T4; have HCC : Hid (Below wc.heap.size wc w3C) := hideIt (below_step (below_step (below_step HBC.out (Nat.le_refl _) (new_below w2C _)) (Nat.le_refl _) (new_below _ _)) (Nat.le_refl _) hb3); clear hb3 hq hr3)
        | (go_at_call 8; refine (HA2.out _ _ pa pc (HRX.out _ (by first | exact below_step HBC.out (Nat.le_refl _) (new_below _ _) | exact below_step (below_step HBC.out (Nat.le_refl _) (new_below _ _)) (Nat.le_refl _) (new_below _ _))) (by first | exact at0 _ _ | exact at1 _ _ _ | exact at2 _ _ _)).mono ?_; intro e w3C hq; obtain ⟨p1, p2, he, hr3, hb3⟩ := (HAI.out _ _ _ _).1 hq; subst he; have HRC := hideIt hr3; have T4 : w3C.heap[(w2C.heap.size + 1)]? = some (.cells #[.string ⟨#[]⟩, .slice none 0 0] 24 (0, 0)) := kept_three hb3; have k0 := cellAt (i := 0) T4 rfl; have k1 := cellAt (i := 1) T4 rfl; have z0 := frz T4 0; have z1 := frz T4 1; have HT4C := hideIt T4; clear T4; have HCC : Hid (Below wc.heap.size wc w3C) := hideIt (below_step (below_step (below_step HBC.out (Nat.le_refl _) (new_below w2C _)) (Nat.le_refl _) (new_below _ _)) (Nat.le_refl _) hb3); clear hb3 hq hr3)
        | (go_at_call 8; refine (HA2.out _ _ pa pc (HRX.out _ (by first | exact below_step HBC.out (Nat.le_refl _) (new_below _ _) | exact below_step (below_step HBC.out (Nat.le_refl _) (new_below _ _)) (Nat.le_refl _) (new_below _ _))) (by first | exact at0 _ _ | exact at1 _ _ _ | exact at2 _ _ _)).mono ?_; intro e w3C hq; obtain ⟨p1, p2, he, hr3, hb3⟩ := (HAI.out _ _ _ _).1 hq; subst he; have HRC := hideIt hr3; have HCC : Hid (Below wc.heap.size wc w3C) := hideIt (below_step (below_step HBC.out (Nat.le_refl _) (new_below w2C _)) (Nat.le_refl _) hb3); clear hb3 hq hr3))
      all_goals go_wp2_with fail
      all_goals go_meet
      all_goals first
        | exact ⟨rfl, set_two HCC.out (by have := HCC.out.size; have := HBC.out.size; first | omega | (simp; omega))⟩
        | exact ⟨rfl, below_step HCC.out (Nat.le_refl _) (new_below _ _)⟩
        | exact ⟨rfl, set_two (below_step HCC.out (Nat.le_refl _) (new_below _ _)) (by have := HCC.out.size; have := HBC.out.size; first | omega | (simp; omega))⟩
    case rest =>
      obtain ⟨rfl, hby⟩ := hcut
      have HBY := hideIt hby
      obtain ⟨z0, z1⟩ := HK2.out _ hby
      clear hby
      go_wp2_with (first
        | (go_at_call 19; refine (HG.out _ _ _ (HRX.out _ HBY.out)).mono ?_; rintro e w8 ⟨rfl, hb8⟩; have B8 := hideIt (below_step HBY.out (Nat.le_refl _) hb8); clear hb8)
        | (go_at_call 21; refine (HI1.out _).mono ?_; rintro e w9 ⟨rfl, hb9⟩; have B9 := hideIt (below_step B8.out (Nat.le_refl _) hb9); clear hb9))
      go_ret
      exact ⟨rfl, below_step (below_step HBW.out (Nat.le_refl _) HBL.out) (Nat.le_refl _) B9.out⟩
end Go.Proofs.Ytecdjejemohkgaa.Rf
