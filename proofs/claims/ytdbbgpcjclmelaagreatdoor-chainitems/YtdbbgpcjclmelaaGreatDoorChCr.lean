/- Chains: all items are solved, or one is too far: walked. -/
import Derived.Test.YtdbbgpcjclmelaaGreatDoorChCq
import Derived.Laws.AppendOwnNone
namespace Go.Proofs.YtdbbgpcjclmelaaGreatDoor.Ch
open Cb Go.RowKit Go.Shelf Go.Maps
theorem grown_refl (w : World) (row : Option Nat) : w.grownBy w row := ⟨rfl, rfl, rfl, Nat.le_refl _, fun _ _ _ => rfl⟩
/-- A row of one's own, and behind it what another row holds, nil or not. -/
theorem step_append_row {P : Program} (w : World) {ops : Array Oper} {o : Oper} {a : Act} {K : Act → World → Prop} {Q : Exit → Act → World → Prop} {E : Prop}
    (hg : o.guard = none) (s x : Operand) (t : TypeId) (hop : o.op = Op.call { callee := Callee.builtin Builtin.append, args := #[s, x], argTypes := #[t, t] })
    (base : Nat) (e : TypeId) (i : TypeInfo) (z : Value) (bytes : Nat) (h1 : P.underlying t = some (.slice e)) (h2 : P.info? e = some i) (h3 : i.zero = some z) (h4 : i.size = 1) (h5 : i.bytes = bytes) (h6 : z.cells.size = 1)
    (v : Value) (n : Nat) (xs : List Value) (hs : a.eval s = v) (hown : w.ownsRow base e 1 v n xs)
    (u : Value) (m : Nat) (news : List Value) (hx : a.eval x = u) (hu : VRow 1 w u m news) (h1c : ∀ u ∈ news, u.oneCell' = true)
    (b1 : n + m ≤ maxLen) (b2 : (n + m) * bytes ≤ 140737488355328) (hbase : base ≤ w.heap.size)
    (hK : ∀ v' w', w'.ownsRow base e 1 v' (n + m) (xs ++ news) → w.grownBy w' v.ownBlock → K (a.put o.dst v') w') :
    if Region.wanted o (yielded ops a.tmps) = true then Oper.wp P o a w K Q else E := by
  obtain ⟨hl, ad, c, rfl, hmc, ⟨_, hnn⟩, hrow⟩ := hu
  cases ad with
  | none =>
    have hc0 := hnn rfl
    subst hc0
    have hm0 : m = 0 := by omega
    subst hm0
    have hnews : news = [] := List.eq_nil_of_length_eq_zero (by omega)
    subst hnews
    have hw : Region.wanted o (yielded ops a.tmps) = true := by simp [Region.wanted, hg]
    rw [if_pos hw]
    have hrun := run_append_owned_none (P := P) (w := w) base t o.type e i 1 h1 h2 v n xs hown
    unfold Oper.wp
    simp [execOp, hop, resolve, invoke, builtin, hs, hx, hrun, Result.andThen]
    exact hK v w (by simpa using hown) (grown_refl _ _)
  | some ad =>
    refine step_append_own hg s x t hop base e i z 1 bytes h1 h2 h3 h4 h5 h6 (by omega) v n xs hs hown ad m c news hx hl (fun j u hj => ?_) h1c b1 b2 hbase hK
    have hj' : j < m := by
      have := (List.getElem?_eq_some_iff.1 hj).1
      omega
    obtain ⟨b, o', e', hcells⟩ := hrow (by omega)
    cases e'
    rw [Addr.add_lit]
    exact hcells.2 j u hj
/-- Where things stand, by their ids. -/
def spL (raws : List ByteArray) (its : List Im) : List Value := (List.range (raws.length * 2)).map fun j => spF raws its (j / 2) (j % 2)
def SvTo (w : World) (raws : List ByteArray) (its : List Im) (dp : Nat → Nat) (e : Ending) (w' : World) : Prop :=
  ((∃ v1 v2, e = .returned (.tuple #[v1, v2, .int .i64 0]) ∧ TRow w' v1 raws ∧ VRow 2 w' v2 raws.length (spL raws its)) ∧ (∀ i, i < raws.length → dp i ≤ 12) ∧ Below w.heap.size w w') ∨
  (e = .returned (.tuple #[.slice none 0 0, .slice none 0 0, .int .i64 120]) ∧ (∃ i, i < raws.length ∧ 12 < dp i) ∧ Below w.heap.size w w')
section
variable {w W0 : World} {A : Ad} {raws : List ByteArray} {its : List Im} {dp : Nat → Nat} {X : World}
theorem fill_all {k N : Nat} {F : Nat → Nat → Value} {Z : Nat → Value} {d : List Nat} (h : ∀ i, i < N → i ∈ d) (hk : 0 < k) : fillC k N F Z d = (List.range (N * k)).map fun j => F (j / k) (j % k) := by
  unfold fillC
  apply List.map_congr_left
  intro j hj
  rw [List.mem_range] at hj
  rw [if_pos (h _ ((Nat.div_lt_iff_lt_mul hk).2 hj))]
/-- All are solved. -/
theorem SM.fin {d : List Nat} (h : SM w W0 A raws its dp d d d d X) (hd : ∀ i, i < raws.length → i ∈ d) (hn : raws.length ≤ 2048) : TRow X (.slice (some ⟨A.b1, 0, none⟩) raws.length raws.length) raws ∧ VRow 2 X (.slice (some ⟨A.b2, 0, none⟩) raws.length raws.length) raws.length (spL raws its) := by
  have h1 := h.r
  have h2 := h.s
  rw [fill_all hd (by omega)] at h1 h2
  have e1 : ((List.range (raws.length * 1)).map fun j => rawF raws (j / 1) (j % 1)) = strs raws := by
    apply List.ext_getElem?
    intro j
    rw [List.getElem?_map]
    by_cases hj : j < raws.length
    · rw [List.getElem?_range (by omega), Option.map_some, Nat.div_one, rawF, strs_at (x := raws[j]) (by simp), List.getD, List.getElem?_eq_getElem hj]
      rfl
    · rw [List.getElem?_eq_none (by simp; omega), List.getElem?_eq_none (by rw [strs_len]; omega)]
      rfl
  rw [e1] at h1
  refine ⟨⟨by rw [strs_len, Nat.mul_one], _, _, rfl, Nat.le_refl _, ⟨by unfold maxLen; omega, fun h => by cases h⟩, fun _ => ⟨_, 0, rfl, block_lt h1, fun j u hj => ?_⟩⟩, ⟨by simp [spL], _, _, rfl, Nat.le_refl _, ⟨by unfold maxLen; omega, fun h => by cases h⟩, fun _ => ⟨_, 0, rfl, block_lt h2, fun j u hj => ?_⟩⟩⟩
  · rw [Nat.zero_add]
    exact cellAt h1 (by rw [List.getElem?_toArray]; exact hj)
  · rw [Nat.zero_add]
    exact cellAt h2 (by rw [List.getElem?_toArray]; exact hj)
/-- Seen from a later world. -/
theorem Cx.late {W1 : World} {v : Value} {par : Nat → Option Nat} {dr ds df dm : List Nat} (hC : Cx w W0 W1 A v raws its par dp) (h : SM w W0 A raws its dp dr ds df dm X) : Cx w X W1 A v raws its par dp := { hC with le := Nat.le_trans hC.le h.z, bx := h.box hC.ok hC.le hC.bx }
theorem SM.late {dr ds df dm : List Nat} (h : SM w W0 A raws its dp dr ds df dm X) : SM w X A raws its dp dr ds df dm X := { h with k := fun _ _ _ _ _ _ => rfl, z := Nat.le_refl _ }
theorem SM.early {Y : World} {dr ds df dm dr' ds' df' dm' : List Nat} (h : SM w W0 A raws its dp dr ds df dm X) (k : SM w X A raws its dp dr' ds' df' dm' Y) : SM w W0 A raws its dp dr' ds' df' dm' Y := { k with k := fun g hg h1 h2 h3 h5 => (k.k g (Nat.lt_of_lt_of_le hg h.z) h1 h2 h3 h5).trans (h.k g hg h1 h2 h3 h5), z := Nat.le_trans h.z k.z }
/-- A row that was made behind the solver is not touched. -/
theorem SM.row {Y W1 : World} {n : Nat} {t : Value} {xs : List Value} {dr ds df dm dr' ds' df' dm' : List Nat} (hA : A.Ok w W1.heap.size) (hle : W1.heap.size ≤ W0.heap.size) (_h : SM w W0 A raws its dp dr ds df dm X) (k : SM w X A raws its dp dr' ds' df' dm' Y) (ho : X.ownsRow W0.heap.size 3 1 t n xs) : Y.ownsRow W0.heap.size 3 1 t n xs := by
  obtain ⟨l1, l2, l3, l4, l5, l6⟩ := hA.lt
  refine ⟨ho.1, ?_⟩
  rcases ho.2 with h0 | ⟨g, cap, cur, e, h1, hg, r⟩
  · exact .inl h0
  · exact .inr ⟨g, cap, cur, e, h1, (k.k g (block_lt hg) (by omega) (by omega) (by omega) (by omega)).trans hg, r⟩
theorem SM.grown {Y W1 : World} {row : Option Nat} {dr ds df dm : List Nat} (hA : A.Ok w W1.heap.size) (hle : W1.heap.size ≤ W0.heap.size) (h : SM w W0 A raws its dp dr ds df dm X) (hg : X.grownBy Y row) (hr : ∀ g, row = some g → W0.heap.size ≤ g) : SM w W0 A raws its dp dr ds df dm Y := by
  obtain ⟨l1, l2, l3, l4, l5, l6⟩ := hA.lt
  obtain ⟨g1, g2, g3, g4, g5, g6⟩ := hA.ge
  have ne : ∀ g, g < W0.heap.size → some g ≠ row := fun g hg e => by have := hr g e.symm; omega
  refine ⟨(hg.block _ (block_lt h.r) (ne _ (by omega))).trans h.r, (hg.block _ (block_lt h.s) (ne _ (by omega))).trans h.s, (hg.block _ (block_lt h.f) (ne _ (by omega))).trans h.f, ?_, fun g hg0 q1 q2 q3 q5 => (hg.block g (Nat.lt_of_lt_of_le hg0 h.z) (ne g hg0)).trans (h.k g hg0 q1 q2 q3 q5), Nat.le_trans h.z hg.size, h.bl.grown hg h.bl.size (fun g e => by have := hr g e; omega)⟩
  obtain ⟨D, ⟨es, cl, h1, h2⟩, h3⟩ := h.m
  exact ⟨D, ⟨es, cl, (hg.block _ (block_lt h1) (ne _ (by omega))).trans h1, h2⟩, h3⟩
end
end Go.Proofs.YtdbbgpcjclmelaaGreatDoor.Ch
