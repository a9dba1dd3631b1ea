/- Trees: the first entry of bytes, walked. -/
import Derived.Test.YtmjffngpaoaflaaGreatDoorTc
import Derived.Test.YtmjffngpaoaflaaGreatDoorShelf
import Derived.Deep.RegionHeld3
namespace Go.Proofs.YtmjffngpaoaflaaGreatDoor
open Go.RowKit Go.Shelf
/-- The one word of the library's that a cut of texts reads is a number. -/
def MaxAt (w : World) : Prop := ∃ m, w.cell? ⟨0, 0, none⟩ = some (.int .i64 m)
theorem MaxAt.pos {w : World} (h : MaxAt w) : 0 < w.heap.size := by
  obtain ⟨m, h⟩ := h
  by_cases hz : 0 < w.heap.size
  · exact hz
  · have : w.heap[0]? = none := Array.getElem?_eq_none (by omega)
    simp [World.cell?, this] at h
theorem MaxAt.keep {w w' : World} (h : MaxAt w) (hb : w'.heap[0]? = w.heap[0]?) : MaxAt w' := by
  obtain ⟨m, h⟩ := h
  exact ⟨m, by rw [World.cell?_of_block (w := w) hb, h]⟩
theorem MaxAt.below {w w' : World} (h : MaxAt w) (hb : Below w.heap.size w w') : MaxAt w' := h.keep (hb.block _ h.pos)
theorem index_none (c : UInt8) (l : List UInt8) (h : c ∉ l) : Lib.index l [c] = -1 := by
  induction l with
  | nil => rfl
  | cons d r ih =>
    have hc : d ≠ c := fun e => h (by simp [e])
    have hr := ih (fun e => h (by simp [e]))
    rw [Lib.index, hr]
    have : ([c] : List UInt8).isPrefixOf (d :: r) = false := by simp [List.isPrefixOf]; exact fun e => hc e.symm
    simp [this]
theorem index_some (c : UInt8) (a r : List UInt8) (h : c ∉ a) : Lib.index (a ++ c :: r) [c] = (a.length : Nat) := by
  induction a with
  | nil => simp [Lib.index, List.isPrefixOf]
  | cons d a ih =>
    have hc : d ≠ c := fun e => h (by simp [e])
    have hr := ih (fun e => h (by simp [e]))
    rw [List.cons_append, Lib.index, hr]
    have : ([c] : List UInt8).isPrefixOf (d :: (a ++ c :: r)) = false := by simp [List.isPrefixOf]; exact fun e => hc e.symm
    rw [this]
    have h2 : ((a.length : Nat) : Int) ≠ -1 := by omega
    simp [h2]
theorem cut_none (c : UInt8) (l : List UInt8) (h : c ∉ l) : Lib.cut l [c] = (l, [], false) := by
  rw [Lib.cut, index_none c l h]
  rfl
theorem cut_some (c : UInt8) (a r : List UInt8) (h : c ∉ a) : Lib.cut (a ++ c :: r) [c] = (a, r, true) := by
  rw [Lib.cut, index_some c a r h, if_pos (by omega)]
  simp [List.drop_append]
theorem cut_at (c : UInt8) (l : List UInt8) : c ∉ l ∨ ∃ a r, l = a ++ c :: r ∧ c ∉ a := by
  induction l with
  | nil => exact .inl (by simp)
  | cons d l ih =>
    by_cases hc : d = c
    · exact .inr ⟨[], l, by simp [hc], by simp⟩
    · rcases ih with h | ⟨a, r, e, ha⟩
      · exact .inl (by simp [h]; exact fun e => hc e.symm)
      · exact .inr ⟨d :: a, r, by simp [e], by simp [ha]; exact fun e => hc e.symm⟩
theorem sCut_none (L : List UInt8) (c : UInt8) (hL : L.length ≤ 1000000) (h : c ∉ L) (w : World) (hm : MaxAt w) :
    Calls Tryz.prog 56 #[.string (bs L), .string ⟨#[c]⟩] w fun e w' => e = .returned (.tuple #[.string (bs L), .string ⟨#[]⟩, .bool false]) ∧ Below w.heap.size w w' := by
  obtain ⟨m, hm⟩ := hm
  refine (Tryz.strings_Cut (bs L) ⟨#[c]⟩ m w (by rw [bs_size]; omega) hm).mono ?_
  rintro e w' ⟨rfl, n, rfl⟩
  rw [bs_list, show (⟨#[c]⟩ : ByteArray).data.toList = [c] from rfl, cut_none c L h]
  exact ⟨rfl, below_drewN _ _⟩
theorem sCut_some (a r : List UInt8) (c : UInt8) (hL : a.length + r.length < 1000000) (h : c ∉ a) (w : World) (hm : MaxAt w) :
    Calls Tryz.prog 56 #[.string (bs (a ++ c :: r)), .string ⟨#[c]⟩] w fun e w' => e = .returned (.tuple #[.string (bs a), .string (bs r), .bool true]) ∧ Below w.heap.size w w' := by
  obtain ⟨m, hm⟩ := hm
  refine (Tryz.strings_Cut (bs (a ++ c :: r)) ⟨#[c]⟩ m w (by rw [bs_size]; simp; omega) hm).mono ?_
  rintro e w' ⟨rfl, n, rfl⟩
  rw [bs_list, show (⟨#[c]⟩ : ByteArray).data.toList = [c] from rfl, cut_some c a r h]
  exact ⟨rfl, below_drewN _ _⟩
theorem clone_any (s : ByteArray) (w : World) (hs : s.size ≤ 281474976710656) : Calls Tryz.prog 25 #[.string s] w fun e w' => e = .returned (.string s) ∧ Below w.heap.size w w' := by
  have H := hideIt (fun w => Tryz.stringslite_Clone s w hs)
  go_enter Tryz.func25, Tryz.ntmps25
  go_wp2_with (first | (go_at_call 60; refine (H.out _).mono ?_; rintro e w1 ⟨rfl, hb⟩))
  go_ret
  exact ⟨rfl, hb⟩
theorem word_no32 : ∀ m : Int, (32 : UInt8) ∉ word m := by
  intro m
  unfold word
  repeat' split
  all_goals decide
theorem heads_none (h : List UInt8) (hn : 32 ∉ h) : heads h = none := by
  cases hh : heads h with
  | none => rfl
  | some p =>
    obtain ⟨m, n⟩ := p
    obtain ⟨rfl, _⟩ := heads_some h m n hh
    exact absurd (by simp) hn
theorem mode_word (a : List UInt8) (h : modeL a ≠ 0) : a = word (modeL a) ∧ 1 ≤ modeL a ∧ modeL a ≤ 3 := by
  unfold modeL at h ⊢
  by_cases h1 : a = [102, 105, 108, 101]
  · rw [if_pos h1]; exact ⟨by rw [h1]; rfl, by omega, by omega⟩
  · rw [if_neg h1] at h ⊢
    by_cases h2 : a = [114, 117, 110]
    · rw [if_pos h2]; exact ⟨by rw [h2]; rfl, by omega, by omega⟩
    · rw [if_neg h2] at h ⊢
      by_cases h3 : a = [116, 114, 101, 101]
      · rw [if_pos h3]; exact ⟨by rw [h3]; rfl, by omega, by omega⟩
      · rw [if_neg h3] at h; exact absurd rfl h
theorem word_of (m : Int) (h : 1 ≤ m ∧ m ≤ 3) : modeL (word m) = m := by
  rcases (by omega : m = 1 ∨ m = 2 ∨ m = 3) with rfl | rfl | rfl <;> rfl
theorem split_one (a b x y : List UInt8) (ha : 32 ∉ a) (hx : 32 ∉ x) (e : a ++ 32 :: b = x ++ 32 :: y) : a = x ∧ b = y := by
  have h1 := cut_some 32 a b ha
  rw [e, cut_some 32 x y hx] at h1
  simp at h1
  exact ⟨h1.1.symm, h1.2.symm⟩
theorem heads_cut (a b : List UInt8) (ha : 32 ∉ a) : heads (a ++ 32 :: b) = if modeL a = 0 then none else some (modeL a, b) := by
  by_cases h : modeL a = 0
  · rw [if_pos h]
    cases hh : heads (a ++ 32 :: b) with
    | none => rfl
    | some p =>
      obtain ⟨m, n⟩ := p
      obtain ⟨e, hm⟩ := heads_some _ m n hh
      obtain ⟨rfl, _⟩ := split_one a b _ _ ha (word_no32 m) e
      rw [word_of m hm] at h
      omega
  · rw [if_neg h]
    obtain ⟨e, hm⟩ := mode_word a h
    conv => lhs; rw [e]
    exact heads_mk _ _ hm
theorem results_c3 {fn : Func} {p u v : Tmp} {ty : TypeId} (h : fn.results = #[.cell p ty, .tmp u, .tmp v]) (tmps : Array Value) (P : Program) (w : World) :
    (results fn tmps).run P w = ((asAddr (tmps.getD p undef)).run P w).andThen fun a w₁ => ((loadVar ty a).run P w₁).andThen fun x w₂ => .ok (.tuple #[x, tmps.getD u undef, tmps.getD v undef]) w₂ := by
  simp only [results, h]
  simp [Sem.run_bind, Result.andThen]
/-- A variable that holds an entry, as it stands in memory. -/
structure Box (w : World) (k : Nat) (x : En) : Prop where
  c0 : w.cell? ⟨k, 0, none⟩ = some (.string x.nm)
  c1 : w.cell? ⟨k, 1, none⟩ = some (.int .i64 x.md)
  c2 : w.cell? ⟨k, 2, none⟩ = some (.string x.ids)
  f0 : w.frozen? ⟨k, 0, none⟩ = false
  f1 : w.frozen? ⟨k, 1, none⟩ = false
  f2 : w.frozen? ⟨k, 2, none⟩ = false
theorem Box.of {w : World} {k : Nat} {x : En} {t : TypeId} (h : w.heap[k]? = some (.cells #[.string x.nm, .int .i64 x.md, .string x.ids] t (0, 0))) : Box w k x :=
  ⟨cellAt h rfl, cellAt h rfl, cellAt h rfl, Lib.frozen_of_heap h 0, Lib.frozen_of_heap h 1, Lib.frozen_of_heap h 2⟩
theorem put3 {w w1 : World} (h : Below w.heap.size w w1) (a b c : Value) : Below w.heap.size w (((w1.setCell ⟨w.heap.size, 0, none⟩ a).setCell ⟨w.heap.size, 1, none⟩ b).setCell ⟨w.heap.size, 2, none⟩ c) := ((h.setCell (p := ⟨w.heap.size, 0, none⟩) (Nat.le_refl _) _).setCell (p := ⟨w.heap.size, 1, none⟩) (Nat.le_refl _) _).setCell (p := ⟨w.heap.size, 2, none⟩) (Nat.le_refl _) _
theorem put3k {w w1 : World} (h : Below w.heap.size w w1) (k : Nat) (hk : w.heap.size ≤ k) (a b c : Value) : Below w.heap.size w (((w1.setCell ⟨k, 0, none⟩ a).setCell ⟨k, 1, none⟩ b).setCell ⟨k, 2, none⟩ c) := ((h.setCell (p := ⟨k, 0, none⟩) hk _).setCell (p := ⟨k, 1, none⟩) hk _).setCell (p := ⟨k, 2, none⟩) hk _
theorem drop_bs (r : List UInt8) (k : Nat) : (bs r).extract k r.length = bs (r.drop k) := by
  apply ByteArray.ext
  apply Array.toList_inj.1
  simp [bs, List.extract_eq_take_drop]
  exact List.take_of_length_le (by simp)
def noEn : En := ⟨⟨#[]⟩, 0, ⟨#[]⟩⟩
abbrev Z3 : Obj := .cells #[.string ⟨#[]⟩, .int .i64 0, .string ⟨#[]⟩] 95
def Has (w : World) (k : Nat) : Prop := w.heap[k]? = some Z3
theorem Has.box {w : World} {k : Nat} (h : Has w k) : Box w k noEn := Box.of (x := noEn) h
theorem Has.below {w w' : World} {k : Nat} (h : Has w k) (hb : Below w.heap.size w w') : Has w' k := by
  have hl : k < w.heap.size := by
    rcases Nat.lt_or_ge k w.heap.size with h' | h'
    · exact h'
    · unfold Has at h; simp [Array.getElem?_eq_none h'] at h
  exact (hb.block k hl).trans h
structure Zero (w : World) (k : Nat) : Prop where
  k0 : w.cell? ⟨k, 0, none⟩ = some (.string ⟨#[]⟩)
  k1 : w.cell? ⟨k, 1, none⟩ = some (.int .i64 0)
  k2 : w.cell? ⟨k, 2, none⟩ = some (.string ⟨#[]⟩)
  f0 : w.frozen? ⟨k, 0, none⟩ = false
  f1 : w.frozen? ⟨k, 1, none⟩ = false
  f2 : w.frozen? ⟨k, 2, none⟩ = false
theorem Has.zero {w : World} {k : Nat} (h : Has w k) : Zero w k := ⟨h.box.c0, h.box.c1, h.box.c2, h.box.f0, h.box.f1, h.box.f2⟩
theorem clone_box (s : ByteArray) (hs : s.size ≤ 281474976710656) (w : World) : Calls Tryz.prog 25 #[.string s] (w.alloc Z3).drew fun e w' => e = .returned (.string s) ∧ Has w' w.heap.size ∧ Below w.heap.size w w' :=
  (clone_any s _ hs).mono fun _ _ h => ⟨h.1, Has.below (w := (w.alloc Z3).drew) (alloc_at rfl) h.2, below2 (((Below.refl _ w).alloc (Nat.le_refl _) Z3).drew) h.2⟩
theorem clone_keep (s : ByteArray) (hs : s.size ≤ 281474976710656) (w : World) (k : Nat) (h : Has w k) : Calls Tryz.prog 25 #[.string s] w fun e w' => e = .returned (.string s) ∧ Zero w' k ∧ Below w.heap.size w w' :=
  (clone_any s _ hs).mono fun _ _ g => ⟨g.1, (h.below g.2).zero, g.2⟩
theorem clone_new (s : ByteArray) (hs : s.size ≤ 281474976710656) (w : World) : Calls Tryz.prog 25 #[.string s] (w.alloc Z3) fun e w' => e = .returned (.string s) ∧ Zero w' w.heap.size ∧ Below w.heap.size w w' :=
  (clone_any s _ hs).mono fun _ _ h => ⟨h.1, (Has.below (w := w.alloc Z3) (alloc_at rfl) h.2).zero, below2 ((Below.refl _ w).alloc (Nat.le_refl _) Z3) h.2⟩
def rdV : Rd → Value
  | .err e => .tuple #[enA noEn, .string ⟨#[]⟩, .int .i64 e]
  | .ok x r => .tuple #[enA x, .string (bs r), .int .i64 0]
set_option maxHeartbeats 1600000 in
set_option maxRecDepth 100000 in
theorem readEntry_any (L : List UInt8) (hL : L.length ≤ 1000000) (w : World) (hm : MaxAt w) :
    Calls Tryz.prog 83 #[.string (bs L)] w fun e w' => e = .returned (rdV (rd L)) ∧ Below w.heap.size w w' := by
  obtain ⟨W, hW⟩ : ∃ W, w.alloc (.cells #[.string ⟨#[]⟩, .int .i64 0, .string ⟨#[]⟩] 95) = W := ⟨_, rfl⟩
  have hbW : Below w.heap.size w W := by rw [← hW]; exact (Below.refl _ _).alloc (Nat.le_refl _) _
  have hbox : W.heap[w.heap.size]? = some (.cells #[.string ⟨#[]⟩, .int .i64 0, .string ⟨#[]⟩] 95 (0, 0)) := by rw [← hW]; exact alloc_at rfl
  have hlt : w.heap.size < W.heap.size := by rw [← hW]; simp
  have hmW := hm.below hbW
  have HBW := hideIt hbW
  have HKW : Hid (∀ w1, Below W.heap.size W w1 → Box w1 w.heap.size noEn) := hideIt (fun w1 h1 => Box.of (x := noEn) ((h1.block _ hlt).trans hbox))
  have HR : Hid (rd L = match cut0 L with
    | none => .err 4
    | some (h, r) => if r.length < 32 then .err 4 else match heads h with
      | none => .err 60
      | some (m, n) => .ok ⟨bs n, m, bs (r.take 32)⟩ (r.drop 32)) := rfl
  have HM := hideIt (modeOf_any)
  clear hbW hbox
  rcases cut_at 0 L with h0 | ⟨hd, r, rfl, h0⟩
  · have HC := hideIt (sCut_none L 0 hL h0 W hmW)
    have HR2 : Hid (rd L = .err 4) := hideIt (by rw [HR.out, (cut0_none L).2 h0])
    clear HR hL h0 hmW
    go_enter Tryz.func83, Tryz.ntmps83
    go_wp2_with (first | (go_at_call 56; refine HC.out.mono ?_; rintro e w1 ⟨rfl, hb1⟩; obtain ⟨k0, k1, k2, f0, f1, f2⟩ := HKW.out w1 hb1; simp only [noEn] at k0 k1 k2))
    (try simp only [Exit.inBlock, Exit.then])
    refine bodyPost_ret (v := .tuple #[enA noEn, .string ⟨#[]⟩, .int .i64 4]) ?_ rfl ⟨by rw [HR2.out]; rfl, ?_⟩
    · rw [results_c3 rfl]
      go_simp
      rfl
    · exact put3 (below2 HBW.out hb1) _ _ _
  · have hl2 : hd.length + r.length < 1000000 := by simp at hL; omega
    have HC := hideIt (sCut_some hd r 0 hl2 h0 W hmW)
    have HR1 : Hid (rd (hd ++ 0 :: r) = if r.length < 32 then .err 4 else match heads hd with
      | none => .err 60
      | some (m, n) => .ok ⟨bs n, m, bs (r.take 32)⟩ (r.drop 32)) := hideIt (by rw [HR.out, cut0_mk hd r h0])
    clear HR
    have hrs : (bs r).size = r.length := bs_size r
    obtain ⟨q, hq⟩ : ∃ q, (bs r).size = q := ⟨_, rfl⟩
    obtain ⟨x, hx⟩ : ∃ x, bs (hd ++ 0 :: r) = x := ⟨_, rfl⟩
    rw [hx] at HC ⊢
    by_cases h32 : r.length < 32
    · have HR2 : Hid (rd (hd ++ 0 :: r) = .err 4) := hideIt (by rw [HR1.out, if_pos h32])
      have g1 : decide ((q : Int) < 32) = true := decide_eq_true (by omega)
      have g2 : (q : Int) < 32 := by omega
      clear HR1 hL h0 hmW hl2 h32 hx hrs
      go_enter Tryz.func83, Tryz.ntmps83
      go_wp2_with (first | (go_at_call 56; refine HC.out.mono ?_; rintro e w1 ⟨rfl, hb1⟩; obtain ⟨k0, k1, k2, f0, f1, f2⟩ := HKW.out w1 hb1; simp only [noEn] at k0 k1 k2))
      (try simp only [Exit.inBlock, Exit.then])
      refine bodyPost_ret (v := .tuple #[enA noEn, .string ⟨#[]⟩, .int .i64 4]) ?_ rfl ⟨by rw [HR2.out]; rfl, ?_⟩
      · rw [results_c3 rfl]
        go_simp
        rfl
      · exact put3 (below2 HBW.out hb1) _ _ _
    · have g1 : decide ((q : Int) < 32) = false := decide_eq_false (by omega)
      have g2 : ¬ (q : Int) < 32 := by omega
      have HR2 : Hid (rd (hd ++ 0 :: r) = match heads hd with
        | none => .err 60
        | some (m, n) => .ok ⟨bs n, m, bs (r.take 32)⟩ (r.drop 32)) := hideIt (by rw [HR1.out, if_neg h32])
      have HMX : Hid (∀ w1, Below W.heap.size W w1 → MaxAt w1) := hideIt (fun w1 h1 => hmW.below h1)
      clear HR1 hL h0 hmW hx
      rcases cut_at 32 hd with h32s | ⟨a, b, rfl, h32s⟩
      · have HC2 := hideIt (sCut_none hd 32 (by omega) h32s)
        have HR3 : Hid (rd (hd ++ 0 :: r) = .err 60) := hideIt (by rw [HR2.out, heads_none hd h32s])
        clear HR2 hl2 h32 hrs
        go_enter Tryz.func83, Tryz.ntmps83
        go_wp2_with (first | (go_at_call_of 56 (Value.string x); refine HC.out.mono ?_; rintro e w1 ⟨rfl, hb1⟩) | (go_at_call 56; refine (HC2.out _ (HMX.out _ hb1)).mono ?_; rintro e w2 ⟨rfl, hb2⟩; obtain ⟨k0, k1, k2, f0, f1, f2⟩ := HKW.out w2 (below2 hb1 hb2); simp only [noEn] at k0 k1 k2) | (go_at_call 102; refine (HM.out _ _).mono ?_; rintro e w3 ⟨rfl, hw3⟩; obtain rfl := hw3.symm))
        (try simp only [Exit.inBlock, Exit.then])
        refine bodyPost_ret (v := .tuple #[enA noEn, .string ⟨#[]⟩, .int .i64 60]) ?_ rfl ⟨by rw [HR3.out]; rfl, ?_⟩
        · rw [results_c3 rfl]
          go_simp
          rfl
        · exact put3 (below2 HBW.out (below2 hb1 hb2)) _ _ _
      · have hl3 : a.length + b.length < 1000000 := by simp at hl2; omega
        have HC2 := hideIt (sCut_some a b 32 hl3 h32s)
        obtain ⟨y, hy⟩ : ∃ y, bs (a ++ 32 :: b) = y := ⟨_, rfl⟩
        rw [hy] at HC HC2
        obtain ⟨m, hmm⟩ : ∃ m, modeL a = m := ⟨_, rfl⟩
        have HM2 : Hid (∀ w, Calls Tryz.prog 102 #[.string (bs a)] w fun e w' => e = .returned (.int .i64 m) ∧ w' = w) := hideIt (by have := HM.out (bs a); rw [bs_list, hmm] at this; exact this)
        have HR3 : Hid (rd ((a ++ 32 :: b) ++ 0 :: r) = if m = 0 then .err 60 else .ok ⟨bs b, m, bs (r.take 32)⟩ (r.drop 32)) := hideIt (by
          rw [HR2.out, heads_cut a b h32s, hmm]
          by_cases hm0 : m = 0
          · rw [if_pos hm0, if_pos hm0]
          · rw [if_neg hm0, if_neg hm0])
        clear HR2 hl2 HM hy hmm
        by_cases hm0 : m = 0
        · subst hm0
          clear h32 hrs hl3
          go_enter Tryz.func83, Tryz.ntmps83
          go_wp2_with (first | (go_at_call_of 56 (Value.string x); refine HC.out.mono ?_; rintro e w1 ⟨rfl, hb1⟩) | (go_at_call 56; refine (HC2.out _ (HMX.out _ hb1)).mono ?_; rintro e w2 ⟨rfl, hb2⟩; obtain ⟨k0, k1, k2, f0, f1, f2⟩ := HKW.out w2 (below2 hb1 hb2); simp only [noEn] at k0 k1 k2) | (go_at_call 102; refine (HM2.out _).mono ?_; rintro e w3 ⟨rfl, hw3⟩; obtain rfl := hw3.symm))
          (try simp only [Exit.inBlock, Exit.then])
          refine bodyPost_ret (v := .tuple #[enA noEn, .string ⟨#[]⟩, .int .i64 60]) ?_ rfl ⟨by rw [HR3.out]; rfl, ?_⟩
          · rw [results_c3 rfl]
            go_simp
            rfl
          · exact put3 (below2 HBW.out (below2 hb1 hb2)) _ _ _
        · have n0 : (m == 0) = false := by simpa using hm0
          have HR4 : Hid (rd ((a ++ 32 :: b) ++ 0 :: r) = .ok ⟨bs b, m, bs (r.take 32)⟩ (r.drop 32)) := hideIt (by rw [HR3.out, if_neg hm0])
          clear HR3
          have b1 : (32 : Int) ≤ (q : Int) := by omega
          have HK1 := hideIt (fun w => clone_any (bs b) w (by rw [bs_size]; omega))
          have ex1 : (bs r).extract 0 32 = bs (r.take 32) := by
            apply ByteArray.ext
            simp [bs]
          have ex2 : (bs r).extract 32 q = bs (r.drop 32) := by rw [← hq, hrs]; exact drop_bs r 32
          have HK2 := hideIt (fun w => clone_any (bs (r.take 32)) w (by rw [bs_size]; simp; omega))
          have HA0 := hideIt (clone_box (bs b) (by rw [bs_size]; omega))
          have HA2 := hideIt (clone_keep (bs (r.take 32)) (by rw [bs_size]; simp; omega))
          have HB4 := hideIt (clone_new (bs (r.take 32)) (by rw [bs_size]; simp; omega))
          clear h32 hrs hl3
          go_enter Tryz.func83, Tryz.ntmps83
          go_wp2_with (first | (go_at_call_of 56 (Value.string x); refine HC.out.mono ?_; rintro e w1 ⟨rfl, hb1⟩) | (go_at_call 56; refine (HC2.out _ (HMX.out _ hb1)).mono ?_; rintro e w2 ⟨rfl, hb2⟩) | (go_at_call 102; refine (HM2.out _).mono ?_; rintro e w3 ⟨rfl, hw3⟩; obtain rfl := hw3.symm))
          have HB2 := hideIt (below2 hb1 hb2)
          clear hb1 hb2
          have HA1 := hideIt (HA0.out w2)
          clear HA0
          go_region_with (first
            | (go_at_call_of 25 (Value.string (bs b)); refine HA1.out.mono ?_; rintro e w3 ⟨rfl, hx3, hb3⟩)
            | (go_at_call_of 25 (Value.string (bs b)); refine (HK1.out _).mono ?_; rintro e w3 ⟨rfl, hb3⟩)
            | (go_at_call_of 25 (Value.string (bs (List.take 32 r))); refine (HA2.out _ _ hx3).mono ?_; rintro e w4 ⟨rfl, ⟨k0, k1, k2, f0, f1, f2⟩, hb4⟩)
            | (go_at_call_of 25 (Value.string (bs (List.take 32 r))); refine (HB4.out _).mono ?_; rintro e w4 ⟨rfl, ⟨k0, k1, k2, f0, f1, f2⟩, hb4⟩)
            | (go_at_call_of 25 (Value.string (bs (List.take 32 r))); refine (HK2.out _).mono ?_; rintro e w4 ⟨rfl, hb4⟩))
          all_goals have hb34 : Below w2.heap.size w2 w4 := below2 ⟨hb3.os, hb3.tape, hb3.output, hb3.size, hb3.block⟩ hb4
          all_goals have hbw4 := below2 HB2.out hb34
          all_goals obtain ⟨p0, p1, p2, g0, g1', g2'⟩ := HKW.out w4 hbw4
          all_goals simp only [noEn] at p0 p1 p2
          all_goals obtain ⟨u0, u1, u2, v0, v1, v2⟩ := HKW.out (w4.alloc (.cells #[.string (bs b), .int .i64 m, .string (bs (r.take 32))] 95)) (below2 hbw4 ((Below.refl _ _).alloc (Nat.le_refl _) _))
          all_goals simp only [noEn] at u0 u1 u2
          all_goals have s2 : w.heap.size < w2.heap.size := Nat.lt_of_lt_of_le hlt HB2.out.size
          all_goals have s3 : w2.heap.size ≤ w3.heap.size := hb3.size
          all_goals have s4 : w3.heap.size ≤ w4.heap.size := hb4.size
          all_goals have n2 : ¬ w2.heap.size = w.heap.size := by omega
          all_goals have n3 : ¬ w3.heap.size = w.heap.size := by omega
          all_goals have n4 : ¬ w4.heap.size = w.heap.size := by omega
          all_goals have n2' : ¬ w.heap.size = w2.heap.size := by omega
          all_goals have n3' : ¬ w.heap.size = w3.heap.size := by omega
          all_goals have n4' : ¬ w.heap.size = w4.heap.size := by omega
          all_goals have HW4 := hideIt (below2 HBW.out hbw4)
          all_goals clear hb34 hbw4 hb3 hb4 HB2 HBW
          all_goals go_wp2
          all_goals go_region
          all_goals go_wp2
          all_goals refine bodyPost_ret (v := .tuple #[enA ⟨bs b, m, bs (r.take 32)⟩, .string (bs (r.drop 32)), .int .i64 0]) ?_ rfl ⟨by rw [HR4.out]; rfl, ?_⟩
          · rw [results_c3 rfl]; go_simp; rfl
          · exact (put3 (HW4.out.alloc (by omega) _) _ _ _).drew
          · rw [results_c3 rfl]; go_simp; rfl
          · exact (put3 (put3k HW4.out w3.heap.size (by omega) _ _ _) _ _ _).drew
          · rw [results_c3 rfl]; go_simp; rfl
          · exact (put3 (put3k HW4.out w2.heap.size (by omega) _ _ _) _ _ _).drew
end Go.Proofs.YtmjffngpaoaflaaGreatDoor
