/- Entries that the law itself puts together: a row that is never nil, appended to in a drawn region. -/
import Derived.Test.YtfpnepjdcgghgaaTn
namespace Go.Proofs.Ytfpnepjdcgghgaa
open Go.RowKit Go.Shelf
/-- A row of the call's own that is not nil. -/
structure Own2 (B : Nat) (w : World) (v : Value) (l : List En) : Prop where
  own : w.ownsRow B 36 3 v l.length (esV l)
  ne : v ≠ .slice none 0 0
theorem Own2.form {B : Nat} {w : World} {v : Value} {l : List En} (h : Own2 B w v l) : ∃ g cap, v = .slice (some ⟨g, 0, none⟩) l.length cap ∧ l.length ≤ cap ∧ cap ≤ maxLen ∧ B ≤ g ∧ g < w.heap.size := by
  rcases h.own.2 with ⟨e, _⟩ | ⟨g, cap, cur, e, h1, hg, h2, h3, _⟩
  · exact absurd e h.ne
  · exact ⟨g, cap, e, h2, h3, h1, block_lt hg⟩
theorem Own2.below {B : Nat} {w w' : World} {v : Value} {l : List En} (h : Own2 B w v l) (hb : Below w.heap.size w w') : Own2 B w' v l := ⟨own_below h.own hb, h.ne⟩
abbrev E0 : Obj := .cells #[] 36
theorem own_empty (w : World) (B : Nat) (hB : B ≤ w.heap.size) (w' : World) (h : w'.heap[w.heap.size]? = some E0) : Own2 B w' (.slice (some ⟨w.heap.size, 0, none⟩) 0 0) [] :=
  ⟨⟨rfl, .inr ⟨w.heap.size, 0, #[], rfl, hB, h, Nat.le_refl _, Nat.zero_le _, rfl, rfl⟩⟩, by simp⟩
theorem step_erow {ops : Array Oper} {o : Oper} {a : Act} {w : World} {K : Act → World → Prop} {Q : Exit → Act → World → Prop} {E : Prop}
    (hgd : o.guard = none) (s x : Operand) (ho : o.op = .call { callee := .builtin .append, args := #[s, x], argTypes := #[22, 22] }) (B : Nat) (v : Value) (acc : List En) (hs : a.eval s = v)
    (hown : Own2 B w v acc) (xv : Value) (l : List En) (hx : a.eval x = xv) (hrow : ERow w xv l) (hlen : acc.length + l.length ≤ 1000000) (hB : B ≤ w.heap.size)
    (h : ∀ v' w', Own2 B w' v' (acc ++ l) → w.grownBy w' v.ownBlock → K (a.put o.dst v') w') : if Region.wanted o (yielded ops a.tmps) = true then Oper.wp Try.prog o a w K Q else E := by
  have hw : Region.wanted o (yielded ops a.tmps) = true := by simp [Region.wanted, hgd]
  rw [if_pos hw]
  obtain ⟨i0, hi0, hz0, hz1, hz2⟩ := info_parts infoE
  obtain ⟨ao, c, rfl, hlc, ⟨hcm, hnone⟩, hrow⟩ := hrow
  cases ao with
  | none =>
    have hl : l = [] := by
      rcases Nat.eq_zero_or_pos l.length with h0 | h0
      · exact List.length_eq_zero_iff.1 h0
      · obtain ⟨b, o', e, _⟩ := hrow h0; cases e
    subst hl
    obtain rfl := hnone rfl
    have hrun := run_append_owned_none (P := Try.prog) (w := w) B 22 o.type 36 i0 3 Try.underlying22 hi0 v acc.length (esV acc) hown.own
    unfold Oper.wp
    simp [execOp, ho, resolve, invoke, builtin, hs, hx, hrun, Result.andThen]
    exact h v w (by simpa using hown) (World.grownBy.refl _ _)
  | some ad =>
    obtain ⟨v', w', hrun, r1, r2, r3⟩ := run_append_own (P := Try.prog) w B 22 o.type 36 i0 (.agg #[.string ⟨#[]⟩, .int .i64 0, .string ⟨#[]⟩]) 3 40 Try.underlying22 hi0 hz0 hz1 hz2 rfl (by decide) v acc.length (esV acc) hown.own ad l.length c (esV l) (esV_len l) (by
      intro j u hj
      rcases Nat.eq_zero_or_pos l.length with h0 | h0
      · have : l = [] := List.length_eq_zero_iff.1 h0
        subst this
        simp [esV] at hj
      · obtain ⟨b, o', e, hc⟩ := hrow h0
        cases e
        exact esV_cell hc j u hj) (esV_one l) (by unfold maxLen; omega) (by omega) hB
    unfold Oper.wp
    simp [execOp, ho, resolve, invoke, builtin, hs, hx, hrun, Result.andThen]
    exact h v' w' ⟨by rw [esV_append]; simpa using r1, fun e => hown.ne (r3.1 e).1⟩ r2
/-- An append changes nothing that lay below, and no block but its own. -/
theorem grown_below {B : Nat} {w w' : World} {v : Value} {l : List En} (h : Own2 B w v l) (hg : w.grownBy w' v.ownBlock) (hB : B ≤ w.heap.size) : Below B w w' := (Below.refl B w).grown hg hB (row_ge h.own)
theorem ERow.mono {B : Nat} {w w' : World} {v : Value} {l : List En} (h : ERow w v l) (hb : Below B w w') (hlt : ∀ b, v.ownBlock = some b → b < B) : ERow w' v l := by
  obtain ⟨a, c, rfl, h1, h2, h3⟩ := h
  refine ⟨a, c, rfl, h1, h2, fun h0 => ?_⟩
  obtain ⟨b, o, rfl, hc⟩ := h3 h0
  have hbB : b < B := hlt b rfl
  refine ⟨b, o, rfl, Nat.lt_of_lt_of_le hc.1 hb.size, fun i x hx => ?_⟩
  obtain ⟨c0, c1, c2⟩ := hc.2 i x hx
  exact ⟨by rw [hb.cell (p := ⟨b, o + i * 3, none⟩) hbB]; exact c0, by rw [hb.cell (p := ⟨b, o + i * 3 + 1, none⟩) hbB]; exact c1, by rw [hb.cell (p := ⟨b, o + i * 3 + 2, none⟩) hbB]; exact c2⟩
end Go.Proofs.Ytfpnepjdcgghgaa
