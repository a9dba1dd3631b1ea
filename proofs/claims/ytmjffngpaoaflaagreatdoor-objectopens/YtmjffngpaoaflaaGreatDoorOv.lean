/- Tags checked and made, walked. -/
import Derived.Test.YtmjffngpaoaflaaGreatDoorOu
namespace Go.Proofs.YtmjffngpaoaflaaGreatDoor
namespace Ob
open Go.RowKit Go.Shelf
theorem ref_c (s : ByteArray) (w : World) : Calls Tryz.prog 79 #[.string (⟨#[116, 97, 103, 115, 47]⟩ ++ s)] w fun e w' => e = .returned (.bool (tagN s)) ∧ Below w.heap.size w w' := ref_any _ w
/-- A tag as it stands in memory. -/
structure TBox (w : World) (N : Nat) (T : TypeId) (t : Tg) : Prop where
  blk : w.heap[N]? = some (.cells #[.string t.tgt, .int .i64 t.kd, .string t.nm, .string t.tx] T (0, 0))
theorem TBox.lt {w : World} {N : Nat} {T : TypeId} {t : Tg} (h : TBox w N T t) : N < w.heap.size := by
  rcases Nat.lt_or_ge N w.heap.size with h' | h'
  · exact h'
  · have := h.blk; simp [Array.getElem?_eq_none h'] at this
theorem TBox.c0 {w : World} {N : Nat} {T : TypeId} {t : Tg} (h : TBox w N T t) : w.cell? ⟨N, 0, none⟩ = some (.string t.tgt) := cellAt h.blk rfl
theorem TBox.c1 {w : World} {N : Nat} {T : TypeId} {t : Tg} (h : TBox w N T t) : w.cell? ⟨N, 1, none⟩ = some (.int .i64 t.kd) := cellAt h.blk rfl
theorem TBox.c2 {w : World} {N : Nat} {T : TypeId} {t : Tg} (h : TBox w N T t) : w.cell? ⟨N, 2, none⟩ = some (.string t.nm) := cellAt h.blk rfl
theorem TBox.c3 {w : World} {N : Nat} {T : TypeId} {t : Tg} (h : TBox w N T t) : w.cell? ⟨N, 3, none⟩ = some (.string t.tx) := cellAt h.blk rfl
theorem TBox.below {w w' : World} {N : Nat} {T : TypeId} {t : Tg} (h : TBox w N T t) (hb : Below w.heap.size w w') : TBox w' N T t := ⟨(hb.block N h.lt).trans h.blk⟩
theorem TBox.new (w : World) (T : TypeId) (t : Tg) : TBox (w.alloc (.cells #[.string t.tgt, .int .i64 t.kd, .string t.nm, .string t.tx] T)) w.heap.size T t := ⟨Cb.alloc_at rfl⟩
set_option maxHeartbeats 1600000 in
set_option maxRecDepth 100000 in
theorem checkTag_any (t : Tg) (w : World) (h2 : t.nm.size ≤ 1000000) (h3 : t.tx.size ≤ 1000000) :
    Calls Tryz.prog 54 #[tgV t] w fun e w' => e = .returned (.int .i64 (tagE t)) ∧ Below w.heap.size w w' := by
  have HNB := hideIt (TBox.new w 58 t)
  obtain ⟨tgt, kd, nm, tx⟩ := t
  simp only at h2 h3
  unfold tgV
  simp only at HNB ⊢
  have HE : Hid (tagE ⟨tgt, kd, nm, tx⟩ = if 1 ≤ kd ∧ kd ≤ 4 then (if (idB tgt && tagN nm && textB tx) = true then 0 else 6) else 70) := rfl
  have HW := hideIt (fun w => wordOf_any kd w)
  have HI : Hid (∀ w, Calls Tryz.prog 40 #[.string tgt] w fun e w' => e = .returned (.bool (idB tgt)) ∧ w = w') := hideIt (fun w => (mayBeID_any tgt w).mono fun _ _ h => ⟨h.1, h.2.symm⟩)
  have HR := hideIt (fun w => ref_c nm w)
  have HT := hideIt (fun w => mayBeText_any tx w (by unfold maxLen; omega))
  have t1 : ¬ 9223372036854775807 < 5 + nm.size := by omega
  have HAB := hideIt (new_below w (.cells #[.string tgt, .int .i64 kd, .string nm, .string tx] 58))
  obtain ⟨i, hi⟩ : ∃ i, idB tgt = i := ⟨_, rfl⟩
  obtain ⟨r, hr⟩ : ∃ r, tagN nm = r := ⟨_, rfl⟩
  obtain ⟨x, hx⟩ : ∃ x, textB tx = x := ⟨_, rfl⟩
  rw [hi] at HI HE
  rw [hr] at HR HE
  rw [hx] at HT HE
  clear hi hr hx h2 h3
  by_cases hk : 1 ≤ kd ∧ kd ≤ 4
  · rw [if_pos hk] at HE
    have n1 := bs_ne _ (kw_ne hk)
    obtain ⟨A, hA⟩ : ∃ A, bs (kw kd) = A := ⟨_, rfl⟩
    rw [hA] at HW n1
    have HW2 : Hid (∀ w, Calls Tryz.prog 65 #[.int .i64 kd] w fun e w' => e = .returned (.string A) ∧ w = w') := hideIt (fun w => (HW.out w).mono fun _ _ h => ⟨h.1, h.2.symm⟩)
    clear HW hA hk
    cases i with
    | false =>
      simp only [Bool.false_and] at HE
      go_enter Tryz.func54, Tryz.ntmps54
      go_wp2_with (first | (go_at_call 65; refine (HW2.out _).mono ?_; rintro e w1 ⟨rfl, rfl⟩) | (go_at_call 40; refine (HI.out _).mono ?_; rintro e w1 ⟨rfl, rfl⟩))
      go_ret
      exact ⟨by rw [HE.out] <;> rfl, HAB.out⟩
    | true =>
      cases r with
      | false =>
        simp only [Bool.and_false, Bool.false_and] at HE
        go_enter Tryz.func54, Tryz.ntmps54
        go_wp2_with (first | (go_at_call 65; refine (HW2.out _).mono ?_; rintro e w1 ⟨rfl, rfl⟩) | (go_at_call 40; refine (HI.out _).mono ?_; rintro e w1 ⟨rfl, rfl⟩) | (go_at_call 79; refine (HR.out _).mono ?_; rintro e w3 ⟨rfl, hb3⟩))
        go_ret
        exact ⟨by rw [HE.out] <;> rfl, below2 HAB.out hb3⟩
      | true =>
        simp only [Bool.true_and] at HE
        cases x with
        | false =>
          rw [if_neg (by decide)] at HE
          go_enter Tryz.func54, Tryz.ntmps54
          go_wp2_with (first | (go_at_call 65; refine (HW2.out _).mono ?_; rintro e w1 ⟨rfl, rfl⟩) | (go_at_call 40; refine (HI.out _).mono ?_; rintro e w1 ⟨rfl, rfl⟩) | (go_at_call 79; refine (HR.out _).mono ?_; rintro e w3 ⟨rfl, hb3⟩; have c3 := (HNB.out.below hb3).c3) | (go_at_call 43; refine (HT.out _).mono ?_; rintro e w4 ⟨rfl, hb4⟩))
          go_ret
          exact ⟨by rw [HE.out] <;> rfl, below2 (below2 HAB.out hb3) hb4⟩
        | true =>
          rw [if_pos rfl] at HE
          go_enter Tryz.func54, Tryz.ntmps54
          go_wp2_with (first | (go_at_call 65; refine (HW2.out _).mono ?_; rintro e w1 ⟨rfl, rfl⟩) | (go_at_call 40; refine (HI.out _).mono ?_; rintro e w1 ⟨rfl, rfl⟩) | (go_at_call 79; refine (HR.out _).mono ?_; rintro e w3 ⟨rfl, hb3⟩; have c3 := (HNB.out.below hb3).c3) | (go_at_call 43; refine (HT.out _).mono ?_; rintro e w4 ⟨rfl, hb4⟩))
          go_ret
          exact ⟨by rw [HE.out] <;> rfl, below2 (below2 HAB.out hb3) hb4⟩
  · rw [if_neg hk] at HE
    have hz : kw kd = [] := kw_none (by omega)
    rw [hz] at HW
    have HW2 : Hid (∀ w, Calls Tryz.prog 65 #[.int .i64 kd] w fun e w' => e = .returned (.string ⟨#[]⟩) ∧ w = w') := hideIt (fun w => (HW.out w).mono fun _ _ h => ⟨h.1, h.2.symm⟩)
    clear HW hz
    go_enter Tryz.func54, Tryz.ntmps54
    go_wp2_with (first | (go_at_call 65; refine (HW2.out _).mono ?_; rintro e w1 ⟨rfl, rfl⟩))
    go_ret
    exact ⟨by rw [HE.out] <;> rfl, HAB.out⟩
theorem tagE_cases (t : Tg) : tagE t = 0 ∨ tagE t = 6 ∨ tagE t = 70 := by
  unfold tagE
  split
  · split
    · exact .inl rfl
    · exact .inr (.inl rfl)
  · exact .inr (.inr rfl)
theorem tagE_ok {t : Tg} (h : tagE t = 0) : (1 ≤ t.kd ∧ t.kd ≤ 4) ∧ t.tgt.size = 32 ∧ tagN t.nm = true ∧ t.tx.size ≤ 4096 := by
  unfold tagE at h
  by_cases hk : 1 ≤ t.kd ∧ t.kd ≤ 4
  · rw [if_pos hk] at h
    by_cases hx : (idB t.tgt && tagN t.nm && textB t.tx) = true
    · simp only [Bool.and_eq_true, idB, textB, decide_eq_true_eq] at hx
      exact ⟨hk, hx.1.1, hx.1.2, hx.2.1⟩
    · rw [if_neg hx] at h; omega
  · rw [if_neg hk] at h; omega
theorem putT_bs (t : Tg) : bs (lineL objectW (Cb.Cd.hexL t.tgt.data.toList)) ++ bs (lineL kindW (kw t.kd)) ++ bs (lineL nameW t.nm.data.toList) ++ ⟨#[10]⟩ ++ t.tx = bs (putT t) := by
  obtain ⟨l, hl⟩ := of_bs t.tx
  rw [putT, hl, bs_list, show (⟨#[10]⟩ : ByteArray) = bs [10] from rfl, bs_append, bs_append, bs_append, bs_append]
  simp
/-- A tag's cells, one by one. -/
def TC (N : Nat) (T : TypeId) (t : Tg) (w0 w : World) : Prop := w.cell? ⟨N, 0, none⟩ = some (.string t.tgt) ∧ w.cell? ⟨N, 1, none⟩ = some (.int .i64 t.kd) ∧ w.cell? ⟨N, 2, none⟩ = some (.string t.nm) ∧ w.cell? ⟨N, 3, none⟩ = some (.string t.tx) ∧ TBox w N T t ∧ Below w0.heap.size w0 w
theorem TC.of {N : Nat} {T : TypeId} {t : Tg} {w0 w : World} (h : TBox w N T t) (hb : Below w0.heap.size w0 w) : TC N T t w0 w := ⟨h.c0, h.c1, h.c2, h.c3, h, hb⟩
theorem TC.keep {N : Nat} {T : TypeId} {t : Tg} {w0 w w1 : World} (hb : Below w.heap.size w w1) (h : TC N T t w0 w) : TC N T t w0 w1 := TC.of (h.2.2.2.2.1.below hb) (below2 h.2.2.2.2.2 hb)
theorem TC.keep3 {N : Nat} {T : TypeId} {t : Tg} {w0 w w1 : World} (hb : Below w.heap.size w w1) (h : w.cell? ⟨N, 0, none⟩ = some (.string t.tgt) ∧ w.cell? ⟨N, 1, none⟩ = some (.int .i64 t.kd) ∧ w.cell? ⟨N, 2, none⟩ = some (.string t.nm) ∧ TC N T t w0 w) :
    w1.cell? ⟨N, 0, none⟩ = some (.string t.tgt) ∧ w1.cell? ⟨N, 1, none⟩ = some (.int .i64 t.kd) ∧ w1.cell? ⟨N, 2, none⟩ = some (.string t.nm) ∧ TC N T t w0 w1 := by
  have := TC.keep hb h.2.2.2
  exact ⟨this.1, this.2.1, this.2.2.1, this⟩
theorem TC.keep4 {N : Nat} {T : TypeId} {t : Tg} {w0 w w1 : World} (hb : Below w.heap.size w w1) (h : w.cell? ⟨N, 0, none⟩ = some (.string t.tgt) ∧ w.cell? ⟨N, 1, none⟩ = some (.int .i64 t.kd) ∧ w.cell? ⟨N, 2, none⟩ = some (.string t.nm) ∧ w.cell? ⟨N, 3, none⟩ = some (.string t.tx) ∧ TC N T t w0 w) :
    w1.cell? ⟨N, 0, none⟩ = some (.string t.tgt) ∧ w1.cell? ⟨N, 1, none⟩ = some (.int .i64 t.kd) ∧ w1.cell? ⟨N, 2, none⟩ = some (.string t.nm) ∧ w1.cell? ⟨N, 3, none⟩ = some (.string t.tx) ∧ TC N T t w0 w1 := by
  have := TC.keep hb h.2.2.2.2
  exact ⟨this.1, this.2.1, this.2.2.1, this.2.2.2.1, this⟩
theorem TC.drew {N : Nat} {T : TypeId} {t : Tg} {w0 w : World} (h : TC N T t w0 w) : TC N T t w0 w.drew := TC.of ⟨by rw [heap_drew]; exact h.2.2.2.2.1.blk⟩ h.2.2.2.2.2.drew
end Ob
end Go.Proofs.YtmjffngpaoaflaaGreatDoor
