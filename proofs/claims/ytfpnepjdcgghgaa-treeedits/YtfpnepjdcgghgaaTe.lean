/- Trees: a tree's bytes, walked. -/
import Derived.Test.YtfpnepjdcgghgaaBld
namespace Go.Proofs.Ytfpnepjdcgghgaa
open Go.RowKit Go.Shelf
/-- A builder that holds bytes, an entry that lies beside it, and nothing else that was changed. -/
structure St (b k : Nat) (x : En) (w0 : World) (N : Nat) (acc : List UInt8) (w : World) : Prop where
  bld : BldF b b (Lib.byteCells acc) w
  box : w.heap[k]? = some (.cells #[.string x.nm, .int .i64 x.md, .string x.ids] 36 (0, 0))
  bel : Below b w0 w
  size : b < w.heap.size
  len : acc.length ≤ N
theorem write_st (b k N : Nat) (x : En) (w0 w : World) (acc : List UInt8) (hk : k ≠ b) (h : St b k x w0 N acc w) (s : ByteArray) (hs : s.size ≤ 64) (hN : N ≤ 40000) :
    Calls Try.prog 21 #[.pointer (some ⟨b, 0, none⟩), .string s] w fun e w' => e = .returned (.tuple #[.int .i64 s.size, .nilIface]) ∧ St b k x w0 (N + 64) (acc ++ s.data.toList) w' := by
  refine (write_any b b (Lib.byteCells acc) s w h.bld (by rw [Lib.byteCells_length]; have := h.len; omega) (Nat.le_of_lt h.size)).mono ?_
  rintro e w' ⟨rfl, h1, h2, h3⟩
  refine ⟨rfl, ?_, h3 k _ h.box (by simpa using hk) (fun c fz => by simp), h.bel.trans h2, ?_, ?_⟩
  · rw [Lib.byteCells_append, ← Lib.strCells_eq]; exact h1
  · have hb : ∃ o, w'.heap[b]? = some o := by
      rcases h1 with h1 | h1
      · obtain ⟨_, v, hh, _⟩ := h1; exact ⟨_, hh⟩
      · obtain ⟨_, v, hh, _⟩ := h1; exact ⟨_, hh⟩
    obtain ⟨o, hb⟩ := hb
    rcases Nat.lt_or_ge b w'.heap.size with h' | h'
    · exact h'
    · simp [Array.getElem?_eq_none h'] at hb
  · rw [List.length_append, str_len]; have := h.len; omega
theorem word_len (m : Int) : (bs (word m)).size ≤ 64 := by
  rw [bs_size]
  unfold word
  repeat' split
  all_goals decide
def encS (l : List En) : ByteArray := if chk l = 0 then bs (encL l) else ⟨#[]⟩
theorem encL_take (l : List En) (i : Nat) (x : En) (h : l[i]? = some x) : encL (l.take (i + 1)) = encL (l.take i) ++ enc1 x := by
  rw [List.take_add_one, h]
  simp [encL]
theorem take_wf (l : List En) (h : chk l = 0) (i : Nat) (hi : i ≤ l.length) : (encL (l.take i)).length ≤ 102 * i := by
  have := encL_len (l.take i) (fun x hx => (chk_wf l h).2 x (List.mem_of_mem_take hx))
  rw [List.length_take, Nat.min_eq_left hi] at this
  exact this
set_option maxHeartbeats 1600000 in
set_option maxRecDepth 100000 in
theorem encode_any (v : Value) (l : List En) (w : World) (h : ERow w v l) : Calls Try.prog 9 #[v] w fun e w' => e = .returned (.tuple #[.string (encS l), .int .i64 (chk l)]) ∧ Below w.heap.size w w' := by
  have HC := hideIt (check_any v l w h)
  have HR := hideIt h
  have HE : Hid (encS l = if chk l = 0 then bs (encL l) else ⟨#[]⟩) := rfl
  obtain ⟨z, hz⟩ : ∃ z, chk l = z := ⟨_, rfl⟩
  rw [hz] at HC HE ⊢
  have HZ := hideIt hz
  obtain ⟨a, c, rfl, hlc, hcm, _⟩ := h
  clear hz
  by_cases h0 : z = 0
  · subst h0
    obtain ⟨n, hn⟩ : ∃ n, l.length = n := ⟨_, rfl⟩
    have hn256 : n ≤ 256 := by have := (chk_wf l HZ.out).1; omega
    rw [hn] at HC HR hlc ⊢
    have HN := hideIt hn
    have HW := hideIt (wordOf_any)
    have HWR := hideIt (write_st)
    clear hn
    go_enter Try.func9, Try.ntmps9
    go_wp2_with (first | (go_at_call 8; refine HC.out.mono ?_; rintro e w1 ⟨rfl, hb1⟩; have HB1 := hideIt hb1; clear hb1))
    go_loopw [15] (fun t wr => ∃ i : Nat, i ≤ n ∧ t = .int .i64 i ∧ BldF w1.heap.size w1.heap.size (Lib.byteCells (encL (l.take i))) wr ∧ Below w1.heap.size w1 wr ∧ w1.heap.size < wr.heap.size) (fun t _ => n - (intOf t).toNat)
    case atStart =>
      refine ⟨0, by omega, rfl, .inl ⟨Nat.le_refl _, _, alloc_at rfl, ?_, by simp [Value.ownBlock]⟩, (Below.refl _ _).alloc (Nat.le_refl _) _, by simp⟩
      exact World.ownsRowF_of ⟨rfl, .inl ⟨rfl, rfl⟩⟩
    case round =>
      obtain ⟨i, hi, rfl, hbl, hbe, hsz⟩ := hrel
      have HBL := hideIt hbl
      have HBE := hideIt hbe
      by_cases hlt : i < n
      · have hid : decide ((i : Int) < (n : Int)) = true := decide_eq_true (by omega)
        have i2 : (i : Int) < (n : Int) := by omega
        obtain ⟨a', c', e', _, _, hrow⟩ := HR.out.below HB1.out
        simp only [Value.slice.injEq] at e'
        obtain ⟨rfl, -, rfl⟩ := e'
        obtain ⟨b, o, rfl, hcells⟩ := hrow (by rw [HN.out]; omega)
        obtain ⟨x, hxi⟩ : ∃ x, l[i]? = some x := ⟨l[i]'(by rw [HN.out]; exact hlt), by simp⟩
        obtain ⟨c0, c1, c2⟩ := (hcells.below hbe).2 i x hxi
        have hxw := (chk_wf l HZ.out).2 x (List.mem_of_getElem? hxi)
        have s1 : x.nm.size ≤ 64 := hxw.2
        have s2 : x.ids.size ≤ 64 := by have := hxw.1.2.2; omega
        have s3 := word_len x.md
        have hne : wr.heap.size ≠ w1.heap.size := by omega
        obtain ⟨W, hW⟩ : ∃ W, wr.alloc (.cells #[.string x.nm, .int .i64 x.md, .string x.ids] 36) = W := ⟨_, rfl⟩
        have hst : St w1.heap.size wr.heap.size x w1 (102 * i) (encL (l.take i)) W := by
          rw [← hW]
          exact ⟨hbl.alloc _, alloc_at rfl, hbe.alloc (Nat.le_of_lt hsz) _, by simp; omega, take_wf l HZ.out i (by rw [HN.out]; omega)⟩
        obtain ⟨k0, k1, k2⟩ := three_cells hst.box
        have HXI := hideIt hxi
        clear hcells hbl hbe hxw hrow hxi
        go_wp2_with (first | (go_at_call 22; refine (HW.out _ _).mono ?_; rintro e w2 ⟨rfl, hw2⟩; obtain rfl := hw2.symm) | (go_at_call 21; refine (HWR.out _ _ _ _ _ _ _ hne (by assumption) _ (by first | assumption | decide) (by omega)).mono ?_; rintro e w2 ⟨rfl, hs2⟩; obtain ⟨k0, k1, k2⟩ := three_cells hs2.box))
        go_roundw
        case rel =>
          have hf : St w1.heap.size wr.heap.size x w1 _ _ w2 := hs2
          refine ⟨i + 1, by omega, by go_num, ?_, hf.bel, hf.size⟩
          have e : encL (l.take (i + 1)) = encL (l.take i) ++ (bs (word x.md)).data.toList ++ (⟨#[32]⟩ : ByteArray).data.toList ++ x.nm.data.toList ++ (⟨#[0]⟩ : ByteArray).data.toList ++ x.ids.data.toList := by
            rw [encL_take l i x HXI.out, bs_list]
            simp [enc1]
          rw [e]
          exact hf.bld
        case measure => simp [intOf]; omega
      · have hid : decide ((i : Int) < (n : Int)) = false := decide_eq_false (by omega)
        obtain rfl : i = n := by omega
        have HST := hideIt (Try.Builder_String_any_k w1.heap.size w1.heap.size (encL (l.take i)) wr hbl (Nat.le_of_lt hsz))
        clear hbl hbe
        go_wp2_with (first | (go_at_call 23; refine HST.out.mono ?_; rintro e w2 ⟨rfl, hs1, hs2, hs3⟩))
        go_ret2
        refine ⟨?_, below_step HB1.out (Nat.le_refl _) (HBE.out.trans hs2)⟩
        rw [HE.out, if_pos trivial, ← HN.out, List.take_length]
        rfl
  · have z1 : (z == 0) = false := by simpa using h0
    go_enter Try.func9, Try.ntmps9
    go_wp2_with (first | (go_at_call 8; refine HC.out.mono ?_; rintro e w1 ⟨rfl, hb1⟩; have HB1 := hideIt hb1; clear hb1))
    go_ret2
    exact ⟨by rw [HE.out, if_neg h0]; rfl, HB1.out⟩
end Go.Proofs.Ytfpnepjdcgghgaa
