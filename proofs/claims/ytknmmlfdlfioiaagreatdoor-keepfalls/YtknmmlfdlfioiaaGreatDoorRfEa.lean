/- Refs: the bytes of refs: Encode, walked. -/
import Derived.Test.YtknmmlfdlfioiaaGreatDoorRfRq
import Derived.Test.YtknmmlfdlfioiaaGreatDoorCbHexw
import Derived.Test.YtknmmlfdlfioiaaGreatDoorLbu
namespace Go.Proofs.YtknmmlfdlfioiaaGreatDoor.Rf
open Cb Go.RowKit Go.Shelf
/-- A ref's line. -/
def enc1 (x : Rf) : List UInt8 := Cd.hexL x.id.data.toList ++ [32] ++ x.nm.data.toList ++ [10]
def headL (hd : ByteArray) : List UInt8 := [104, 101, 97, 100, 32] ++ hd.data.toList ++ [10]
/-- The bytes of refs. -/
def encL (hd : ByteArray) (l : List Rf) : List UInt8 := headL hd ++ l.flatMap enc1
theorem encL_take (hd : ByteArray) (l : List Rf) (i : Nat) (x : Rf) (h : l[i]? = some x) : encL hd (l.take (i + 1)) = encL hd (l.take i) ++ enc1 x := by
  rw [List.take_add_one, h]
  simp [encL]
theorem headB_size {s : ByteArray} (h : headB s = true) : s.size ≤ 70 := by
  rw [(refK_says s).2, refK] at h
  by_cases h1 : hasH s = true
  · rw [if_pos h1] at h
    by_cases h2 : okRef (s.extract 6 s.size) = true
    · rcases Nat.lt_or_ge 64 (s.extract 6 s.size).size with h3 | h3
      · rw [okRef_long _ h3] at h2; cases h2
      · rw [ByteArray.size_extract] at h3; omega
    · rw [if_neg h2] at h; cases h
  · rw [if_neg h1] at h
    split at h <;> (try split at h) <;> cases h
theorem okN_size {s : ByteArray} (h : okN s = true) : s.size ≤ 70 := by
  rw [okN, (refK_says s).1, decide_eq_true_eq, refK] at h
  split at h
  · split at h
    · rename_i h2
      rcases Nat.lt_or_ge 64 (s.extract 6 s.size).size with h3 | h3
      · rw [okRef_long _ h3] at h2; cases h2
      · rw [ByteArray.size_extract] at h3; omega
    · omega
  · split at h
    · split at h
      · rename_i h2
        rcases Nat.lt_or_ge 64 (s.extract 5 s.size).size with h3 | h3
        · rw [okRef_long _ h3] at h2; cases h2
        · rw [ByteArray.size_extract] at h3; omega
      · omega
    · omega
theorem chkL_wf : ∀ (l : List Rf) (p : Option ByteArray), chkL p l = 0 → ∀ x ∈ l, okN x.nm = true ∧ x.id.size = 32
  | [], _, _, x, hx => by simp at hx
  | y :: t, p, h, x, hx => by
    rw [chkL] at h
    have h0 : stepR p y = 0 := by
      by_cases e : stepR p y = 0
      · exact e
      · simp only [if_neg e] at h; exact h
    simp only [if_pos h0] at h
    rcases List.mem_cons.1 hx with rfl | hx
    · rw [stepR] at h0
      split at h0
      · cases h0
      · rename_i a
        split at h0
        · cases h0
        · rename_i b
          exact ⟨by simpa using a, by simpa using b⟩
    · exact chkL_wf t _ h x hx
theorem chkR_wf {hd : ByteArray} {l : List Rf} (h : chkR hd l = 0) : l.length ≤ 256 ∧ headB hd = true ∧ chkL none l = 0 ∧ ∀ x ∈ l, okN x.nm = true ∧ x.id.size = 32 := by
  rw [chkR] at h
  split at h
  · cases h
  · split at h
    · rename_i a b
      exact ⟨by omega, b, h, chkL_wf l none h⟩
    · cases h
theorem enc1_len {x : Rf} (h : okN x.nm = true ∧ x.id.size = 32) : (enc1 x).length ≤ 140 := by
  have h1 := okN_size h.1
  rw [enc1, List.length_append, List.length_append, List.length_append, Cd.hexL_len, str_len, str_len, h.2]
  simp; omega
theorem encL_len (hd : ByteArray) (hh : headB hd = true) : ∀ l : List Rf, (∀ x ∈ l, okN x.nm = true ∧ x.id.size = 32) → (encL hd l).length ≤ 80 + 140 * l.length := by
  intro l hl
  have h1 := headB_size hh
  have h2 : (l.flatMap enc1).length ≤ 140 * l.length := by
    induction l with
    | nil => simp
    | cons x t ih =>
      have := enc1_len (hl x (by simp))
      have := ih (fun y hy => hl y (by simp [hy]))
      simp at *; omega
  rw [encL, headL, List.length_append, List.length_append, List.length_append, str_len]
  simp at *; omega
/-- A builder that holds bytes, and nothing below it that was changed. -/
structure Sb (b : Nat) (w0 : World) (N : Nat) (acc : List UInt8) (w : World) : Prop where
  bld : BldF b b (Lib.byteCells acc) w
  bel : Below b w0 w
  size : b < w.heap.size
  len : acc.length ≤ N
theorem write_sb (b N : Nat) (w0 w : World) (acc : List UInt8) (h : Sb b w0 N acc w) (s : ByteArray) (hs : s.size ≤ 1000) (hN : N ≤ 100000) :
    Calls Tryz.prog 37 #[.pointer (some ⟨b, 0, none⟩), .string s] w fun e w' => e = .returned (.tuple #[.int .i64 s.size, .nilIface]) ∧ Sb b w0 (N + 1000) (acc ++ s.data.toList) w' := by
  refine (write_any b b (Lib.byteCells acc) s w h.bld (by rw [Lib.byteCells_length]; have := h.len; omega) (Nat.le_of_lt h.size)).mono ?_
  rintro e w' ⟨rfl, h1, h2, h3⟩
  refine ⟨rfl, ?_, h.bel.trans h2, ?_, ?_⟩
  · rw [Lib.byteCells_append, ← Lib.strCells_eq]; exact h1
  · have hb : ∃ o, w'.heap[b]? = some o := by
      rcases h1 with h1 | h1
      · obtain ⟨_, v, hh, _⟩ := h1; exact ⟨_, hh⟩
      · obtain ⟨_, v, hh, _⟩ := h1; exact ⟨_, hh⟩
    obtain ⟨o, hb⟩ := hb
    exact block_lt hb
  · rw [List.length_append, str_len]; have := h.len; omega
theorem bldF_below {B b : Nat} {bs : List Value} {w w' : World} (h : BldF B b bs w) (hb : Below w.heap.size w w') : BldF B b bs w' := by
  have go : ∀ p, Lib.BuilderAtF 88 5 B b p bs w → Lib.BuilderAtF 88 5 B b p bs w' := by
    rintro p ⟨hB, v, hh, hown, hne⟩
    refine ⟨hB, v, (hb.block b (block_lt hh)).trans hh, ⟨hown.1, ?_⟩, hne⟩
    rcases hown.2 with h0 | ⟨g, cap, cur, fz, e, h1, hg, r⟩
    · exact .inl h0
    · exact .inr ⟨g, cap, cur, fz, e, h1, (hb.block g (block_lt hg)).trans hg, r⟩
  rcases h with h | h
  · exact .inl (go _ h)
  · exact .inr (go _ h)
theorem Sb.below {b N : Nat} {w0 w w' : World} {acc : List UInt8} (h : Sb b w0 N acc w) (hb : Below w.heap.size w w') : Sb b w0 N acc w' :=
  ⟨bldF_below h.bld hb, h.bel.trans (hb.mono (Nat.le_of_lt h.size)), Nat.lt_of_lt_of_le h.size hb.size, h.len⟩
theorem Sb.more {b N M : Nat} {w0 w : World} {acc : List UInt8} (h : Sb b w0 N acc w) (hM : acc.length ≤ M) : Sb b w0 M acc w := ⟨h.bld, h.bel, h.size, hM⟩
def encV (hd : ByteArray) (l : List Rf) : ByteArray := if chkR hd l = 0 then Cb.bs (encL hd l) else ⟨#[]⟩
set_option maxHeartbeats 1600000 in
set_option maxRecDepth 100000 in
theorem encode_any (hd : ByteArray) (v : Value) (l : List Rf) (w : World) (h : RRow w v l) (hl : l.length ≤ 100000) :
    Calls Tryz.prog 21 #[.agg #[.string hd, v]] w fun e w' => e = .returned (.tuple #[.string (encV hd l), .int .i64 (chkR hd l)]) ∧ Below w.heap.size w w' := by
  obtain ⟨W, hW⟩ : ∃ W, w.alloc (.cells #[.string hd, v] 37) = W := ⟨_, rfl⟩
  have hb : Below w.heap.size w W := by rw [← hW]; exact (Below.refl _ w).alloc (Nat.le_refl _) _
  have hsz : W.heap.size = w.heap.size + 1 := by rw [← hW]; simp
  have hcc : W.cell? ⟨w.heap.size, 0, none⟩ = some (.string hd) ∧ W.cell? ⟨w.heap.size, 1, none⟩ = some v := ⟨cellAt (by rw [← hW]; exact alloc_at rfl) rfl, cellAt (by rw [← hW]; exact alloc_at rfl) rfl⟩
  have HF : Hid (∀ w', Below W.heap.size W w' → w'.cell? ⟨w.heap.size, 0, none⟩ = some (.string hd) ∧ w'.cell? ⟨w.heap.size, 1, none⟩ = some v) := hideIt (fun w' hb' => by rw [hb'.cell (p := ⟨w.heap.size, 1, none⟩) (by show w.heap.size < _; omega), hb'.cell (p := ⟨w.heap.size, 0, none⟩) (by show w.heap.size < _; omega)]; exact hcc)
  have HB := hideIt hb
  have HW := hideIt hW
  have HC := hideIt (check_any hd v l W (h.below hb) hl)
  obtain ⟨n, hn⟩ : ∃ n, l.length = n := ⟨_, rfl⟩
  have HN := hideIt hn
  have nI : (n : Int) ≤ 100000 := by omega
  have HR : Hid (∀ i x, l[i]? = some x → ∃ b o c, v = .slice (some ⟨b, o, none⟩) n c ∧ ∀ w', Below W.heap.size W w' → w'.cell? ⟨b, o + i * 2, none⟩ = some (.string x.nm) ∧ w'.cell? ⟨b, o + i * 2 + 1, none⟩ = some (.string x.id)) := hideIt (fun i x hi => by
    have hil := (List.getElem?_eq_some_iff.1 hi).1
    obtain ⟨b, o, c, e, _, _, h3⟩ := h.cells (by omega)
    rw [hn] at e
    exact ⟨b, o, c, e, fun w' hb' => h3 i x hi w' (below_step hb (Nat.le_refl _) hb')⟩)
  have HE : Hid (encV hd l = if chkR hd l = 0 then Cb.bs (encL hd l) else ⟨#[]⟩) := rfl
  obtain ⟨z, hz⟩ : ∃ z, chkR hd l = z := ⟨_, rfl⟩
  rw [hz] at HC HE ⊢
  have HZ := hideIt hz
  obtain ⟨h0, a, c, hv, h1, h2, h3⟩ := h
  subst hv
  rw [hn] at HR h1 hcc HF HW HC ⊢
  clear h0 h3 hn hl hb hW hcc hz
  by_cases h0 : z = 0
  · subst h0
    obtain ⟨wf1, wf2, wf3, wf4⟩ := chkR_wf HZ.out
    rw [HN.out] at wf1
    have hz70 : hd.size ≤ 70 := headB_size wf2
    have HWF := hideIt wf4
    have HWH := hideIt wf2
    have HWR := hideIt write_sb
    have HX := hideIt (fun s w hs => hex_any s w hs)
    obtain ⟨T0, hT0⟩ : ∃ T0, (⟨#[104, 101, 97, 100, 32]⟩ : ByteArray) ++ hd ++ (⟨#[10]⟩ : ByteArray) = T0 := ⟨_, rfl⟩
    have hT0s : T0.size ≤ 1000 := by rw [← hT0, ByteArray.size_append, ByteArray.size_append]; have : (⟨#[104, 101, 97, 100, 32]⟩ : ByteArray).size = 5 := rfl; have : (⟨#[10]⟩ : ByteArray).size = 1 := rfl; omega
    have HT0 : Hid (T0.data.toList = encL hd (l.take 0)) := hideIt (by rw [← hT0, cat_data, cat_data]; simp [encL, headL])
    have s5 : ¬ 9223372036854775807 < 5 + hd.size := by omega
    have s6 : ¬ 9223372036854775807 < 5 + hd.size + 1 := by omega
    have HTT := hideIt hT0
    clear wf2 wf3 wf4 hT0
    go_enter Tryz.func21, Tryz.ntmps21
    go_wp2_with (first
      | (go_at_call 36; rw [HW.out]; refine HC.out.mono ?_; rintro e w1 ⟨rfl, hb1⟩; obtain ⟨q0, q1⟩ := HF.out _ (hb1.alloc hb1.size (.cells #[.pointer none, .slice none 0 0] 88)); have HB1 := hideIt hb1; clear hb1)
      | (go_at_call 37; rw [HTT.out]; refine (HWR.out w1.heap.size 0 w1 _ [] ⟨.inl ⟨Nat.le_refl _, _, alloc_at rfl, World.ownsRowF_of ⟨rfl, .inl ⟨rfl, rfl⟩⟩, by simp [Value.ownBlock]⟩, (Below.refl _ _).alloc (Nat.le_refl _) _, by simp, by simp⟩ T0 hT0s (by omega)).mono ?_; rintro e w2 ⟨rfl, hs2⟩; obtain ⟨p0, p1⟩ := HF.out _ (HB1.out.trans (hs2.bel.mono HB1.out.size))))
    rw [List.nil_append, HT0.out] at hs2
    have HS2 := hideIt hs2
    clear q0 q1 p0 hs2
    go_loopw [21] (fun t wr => ∃ i : Nat, i ≤ n ∧ t = .int .i64 (i : Int) ∧ Sb w1.heap.size w1 (1000 + 140 * i) (encL hd (l.take i)) wr) (fun t _ => n - (intOf t).toNat)
    case atStart => exact ⟨0, by omega, rfl, HS2.out.more (by have := HS2.out.len; omega)⟩
    case round =>
      obtain ⟨i, hi, rfl, hbl⟩ := hrel
      have HBL := hideIt hbl
      have hbr : Below W.heap.size W wr := HB1.out.trans (hbl.bel.mono HB1.out.size)
      have HBR := hideIt hbr
      by_cases hlt : i < n
      · have i1 : (i : Int) < (n : Int) := by omega
        have i2 : decide ((i : Int) < (n : Int)) = true := decide_eq_true i1
        obtain ⟨x, hxi⟩ : ∃ x, l[i]? = some x := ⟨l[i]'(by rw [HN.out]; exact hlt), by simp⟩
        obtain ⟨b, o, c', e, hcc⟩ := HR.out i x hxi
        cases e
        obtain ⟨c0, c1⟩ := hcc wr hbr
        have hxw := HWF.out x (List.mem_of_getElem? hxi)
        have hn70 := okN_size hxw.1
        have HXX := hideIt (fun w => HX.out x.id w (by have := hxw.2; omega))
        obtain ⟨U, hU⟩ : ∃ U, Cb.bs (Cd.hexL x.id.data.toList) = U := ⟨_, rfl⟩
        have hUs : U.size ≤ 64 := by rw [← hU, Cb.bs_size, Cd.hexL_len, str_len]; have := hxw.2; omega
        rw [hU] at HXX
        obtain ⟨T, hT⟩ : ∃ T, U ++ (⟨#[32]⟩ : ByteArray) ++ x.nm ++ (⟨#[10]⟩ : ByteArray) = T := ⟨_, rfl⟩
        have hTs : T.size ≤ 1000 := by rw [← hT, ByteArray.size_append, ByteArray.size_append, ByteArray.size_append]; have : (⟨#[32]⟩ : ByteArray).size = 1 := rfl; have : (⟨#[10]⟩ : ByteArray).size = 1 := rfl; omega
        have HT : Hid (encL hd (l.take (i + 1)) = encL hd (l.take i) ++ T.data.toList) := hideIt (by rw [encL_take hd l i x hxi, ← hT, cat_data, cat_data, cat_data, ← hU, Cb.bs_list]; rfl)
        have HTE := hideIt hT
        have s7 : ¬ 9223372036854775807 < U.size + 1 := by omega
        have s8 : ¬ 9223372036854775807 < U.size + 1 + x.nm.size := by omega
        have s9 : ¬ 9223372036854775807 < U.size + 1 + x.nm.size + 1 := by omega
        have hbx : Below wr.heap.size wr (wr.alloc (.cells #[.string x.nm, .string x.id] 65)).drew := (((Below.refl _ wr).alloc (Nat.le_refl _) _)).trans ⟨rfl, rfl, rfl, Nat.le_refl _, fun _ _ => rfl⟩
        have HY : Hid (∀ w', Below (wr.alloc (.cells #[.string x.nm, .string x.id] 65)).drew.heap.size (wr.alloc (.cells #[.string x.nm, .string x.id] 65)).drew w' → w'.cell? ⟨wr.heap.size, 0, none⟩ = some (.string x.nm) ∧ w'.cell? ⟨wr.heap.size, 1, none⟩ = some (.string x.id)) := hideIt (fun w' hb' => by
          refine ⟨?_, ?_⟩
          · rw [hb'.cell (p := ⟨wr.heap.size, 0, none⟩) (by simp [World.drew])]
            exact cellAt (w := (wr.alloc (.cells #[.string x.nm, .string x.id] 65)).drew) (alloc_at (w := wr) rfl) rfl
          · rw [hb'.cell (p := ⟨wr.heap.size, 1, none⟩) (by simp [World.drew])]
            exact cellAt (w := (wr.alloc (.cells #[.string x.nm, .string x.id] 65)).drew) (alloc_at (w := wr) rfl) rfl)
        have HSx : Hid (∀ w', Below (wr.alloc (.cells #[.string x.nm, .string x.id] 65)).drew.heap.size (wr.alloc (.cells #[.string x.nm, .string x.id] 65)).drew w' → Sb w1.heap.size w1 (1000 + 140 * i) (encL hd (l.take i)) w') := hideIt (fun w' hb' => hbl.below (hbx.trans (hb'.mono hbx.size)))
        have HLE : Hid ((encL hd (l.take i)).length + T.size ≤ 1000 + 140 * (i + 1)) := hideIt (by
          have a1 := encL_len hd HWH.out (l.take i) (fun y hy => HWF.out y (List.mem_of_mem_take hy))
          rw [List.length_take] at a1
          have a2 : T.size ≤ 140 := by rw [← hT, ByteArray.size_append, ByteArray.size_append, ByteArray.size_append]; have : (⟨#[32]⟩ : ByteArray).size = 1 := rfl; have : (⟨#[10]⟩ : ByteArray).size = 1 := rfl; omega
          omega)
        clear hxw hcc hbl hbr hU hT hbx
        go_wp2
        go_region_with (first
          | (go_at_call 38; refine (HXX.out _).mono ?_; rintro e w2 ⟨rfl, hb2⟩; have HB2 := hideIt hb2; obtain ⟨r0, r1⟩ := HY.out _ hb2; clear hb2)
          | (go_at_call 37; rw [HTE.out]; refine (HWR.out _ _ _ _ _ (HSx.out _ HB2.out) T hTs (by omega)).mono ?_; rintro e w3 ⟨rfl, hs3⟩; have HS3 := hideIt hs3; clear hs3))
        all_goals go_wp2
        all_goals go_roundw
        all_goals first
          | exact ⟨i + 1, by omega, by go_num, by rw [HT.out]; exact HS3.out.more (by rw [List.length_append, str_len]; exact HLE.out)⟩
          | (simp [intOf]; omega)
      · have i2 : decide ((i : Int) < (n : Int)) = false := decide_eq_false (by omega)
        obtain rfl : i = n := by omega
        have HST := hideIt (Tryz.Builder_String_any_k w1.heap.size w1.heap.size (encL hd (l.take i)) wr hbl.bld (Nat.le_of_lt hbl.size))
        clear hbl hbr
        go_wp2_with (first | (go_at_call 39; refine HST.out.mono ?_; rintro e w2 ⟨rfl, hs1, hs2, hs3⟩))
        go_ret2
        refine ⟨?_, below_step HB.out (Nat.le_refl _) (HB1.out.trans ((HBL.out.bel.trans hs2).mono HB1.out.size))⟩
        rw [HE.out, if_pos trivial, ← HN.out, List.take_length]
        rfl
  · have z1 : (z == 0) = false := by simpa using h0
    go_enter Tryz.func21, Tryz.ntmps21
    go_wp2_with (first | (go_at_call 36; rw [HW.out]; refine HC.out.mono ?_; rintro e w1 ⟨rfl, hb1⟩; have HB1 := hideIt hb1; clear hb1))
    go_ret2
    exact ⟨by rw [HE.out, if_neg h0]; rfl, below_step HB.out (Nat.le_refl _) HB1.out⟩
end Go.Proofs.YtknmmlfdlfioiaaGreatDoor.Rf
