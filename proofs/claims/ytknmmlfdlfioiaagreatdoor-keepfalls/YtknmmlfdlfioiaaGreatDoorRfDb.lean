/- Refs: Decode's memory. -/
import Derived.Test.YtknmmlfdlfioiaaGreatDoorRfDa
import Derived.Test.YtknmmlfdlfioiaaGreatDoorRfRz
namespace Go.Proofs.YtknmmlfdlfioiaaGreatDoor.Rf
open Cb Go.RowKit Go.Shelf
/-- Refs that are being gathered: the result's box, their own box, their row. -/
structure DM (w0 : World) (g : Nat) (hd : ByteArray) (m : List Rf) (v : Value) (w : World) : Prop where
  bel : Below w0.heap.size w0 w
  lo : w0.heap.size < g
  hi : g < w.heap.size
  res : w.heap[w0.heap.size]? = some (.cells #[.string ⟨#[]⟩, .slice none 0 0] 37 (0, 0))
  box : w.heap[g]? = some (.cells #[.string hd, v] 37 (0, 0))
  row : w.ownsRow (g + 1) 65 2 v m.length (rfsV m)
theorem DM.below {w0 w w' : World} {g : Nat} {hd : ByteArray} {m : List Rf} {v : Value} (h : DM w0 g hd m v w) (hb : Below w.heap.size w w') : DM w0 g hd m v w' :=
  ⟨below_step h.bel (Nat.le_refl _) hb, h.lo, Nat.lt_of_lt_of_le h.hi hb.size, (hb.block _ (Nat.lt_trans h.lo h.hi)).trans h.res, (hb.block _ h.hi).trans h.box, own_below h.row hb⟩
theorem DM.drew {w0 w : World} {g : Nat} {hd : ByteArray} {m : List Rf} {v : Value} (h : DM w0 g hd m v w) : DM w0 g hd m v w.drew := h.below ⟨rfl, rfl, rfl, Nat.le_refl _, fun _ _ => rfl⟩
theorem row_form2 {w : World} {B n k : Nat} {t : TypeId} {v : Value} {xs : List Value} (h : w.ownsRow B t k v (n + 1) xs) : ∃ g c, v = .slice (some ⟨g, 0, none⟩) (n + 1) c := by
  rcases h.2 with ⟨_, e⟩ | ⟨g, cap, cur, e, _⟩
  · omega
  · exact ⟨g, cap, e⟩
theorem DM.append {w0 w w3 : World} {g : Nat} {hd : ByteArray} {m : List Rf} {v v3 : Value} {o : Obj} (h : DM w0 g hd m v w) (x : Rf) (hg : (w.alloc o).grownBy w3 v.ownBlock) (hown : w3.ownsRow (g + 1) 65 2 v3 (m.length + 1) (rfsV m ++ rfV x)) :
    (w3.cell? ⟨g, 1, none⟩ = some v ∧ w3.frozen? ⟨g, 1, none⟩ = false) ∧ DM w0 g hd (m ++ [x]) v3 (w3.setCell ⟨g, 1, none⟩ v3) := by
  have hge := row_ge h.row
  have hlt0 : w0.heap.size < w.heap.size := Nat.lt_trans h.lo h.hi
  have hsz : (w.alloc o).heap.size = w.heap.size + 1 := by simp
  have b0 : w3.heap[w0.heap.size]? = some (.cells #[.string ⟨#[]⟩, .slice none 0 0] 37 (0, 0)) := by
    rw [hg.block w0.heap.size (by omega) (fun e => by have := hge _ e.symm; have := h.lo; omega), Below.heap_alloc _ _ _ hlt0]
    exact h.res
  have b1 : w3.heap[g]? = some (.cells #[.string hd, v] 37 (0, 0)) := by
    rw [hg.block g (by have := h.hi; omega) (fun e => by have := hge _ e.symm; omega), Below.heap_alloc _ _ _ h.hi]
    exact h.box
  have hbel : Below w0.heap.size w0 w3 := Below.grown (h.bel.alloc (Nat.le_of_lt hlt0) o) hg (by omega) (fun k hk => by have := hge k hk; have := h.lo; omega)
  refine ⟨⟨cellAt b1 rfl, frz b1 1⟩, ⟨hbel.setCell (by show w0.heap.size ≤ g; exact Nat.le_of_lt h.lo) _, h.lo, ?_, ?_, ?_, ?_⟩⟩
  · have := hg.size; have := h.hi; simp [World.setCell] at *; omega
  · rw [heap_setCell_other w3 ⟨g, 1, none⟩ _ _ (by have := h.lo; simp; omega)]
    exact b0
  · rw [heap_setCell_same w3 g 1 _ 37 _ b1]
    rfl
  · have e : rfsV (m ++ [x]) = rfsV m ++ rfV x := by rw [rfsV_append]; simp [rfsV]
    rw [e, List.length_append]
    exact own_other hown ⟨g, 1, none⟩ (by show g < g + 1; omega) _
def lenS : Value → Nat
  | .string s => s.size
  | _ => 0
theorem unhexV_two (o : Option (List UInt8)) : ∃ I E, unhexV o = .tuple #[.string I, .int .i64 E] ∧ ((o = none ∧ E = 6) ∨ ∃ t, o = some t ∧ I = Cb.bs t ∧ E = 0) := by
  cases o with
  | none => exact ⟨_, _, rfl, .inl ⟨rfl, rfl⟩⟩
  | some t => exact ⟨_, _, rfl, .inr ⟨t, rfl, rfl, rfl⟩⟩
theorem unhexL_len2 : ∀ (n : Nat) (l t : List UInt8), l.length ≤ n → Cd.unhexL l = some t → t.length ≤ l.length
  | _, [], t, _, h => by simp [Cd.unhexL] at h; subst h; simp
  | _, [_], t, _, h => by simp [Cd.unhexL] at h
  | 0, _ :: _ :: _, _, hn, _ => by simp at hn
  | n + 1, a :: b :: r, t, hn, h => by
    rw [Cd.unhexL] at h
    split at h
    · rw [Option.map_eq_some_iff] at h
      obtain ⟨t', h', rfl⟩ := h
      have := unhexL_len2 n r t' (by simp at hn; omega) h'
      simp; omega
    · cases h
theorem results_c2 {fn : Func} {p u : Tmp} {ty : TypeId} (h : fn.results = #[.cell p ty, .tmp u]) (tmps : Array Value) (P : Program) (w : World) :
    (results fn tmps).run P w = ((asAddr (tmps.getD p undef)).run P w).andThen fun a w₁ => ((loadVar ty a).run P w₁).andThen fun x w₂ => .ok (.tuple #[x, tmps.getD u undef]) w₂ := by
  simp only [results, h]
  simp [Sem.run_bind, Result.andThen]
/-- Refs that a call read, or none, and why not. -/
def DecTo (w : World) (S : List UInt8) (e : Ending) (w' : World) : Prop := ∃ v, e = .returned (.tuple #[.agg #[.string (Cb.bs (decP S).2.1), v], .int .i64 (decP S).1]) ∧ RRow w' v (decP S).2.2 ∧ Below w.heap.size w w'
theorem dec_bad {w w' : World} {S : List UInt8} {E : Int} (h : decP S = (E, [], [])) (hb : Below w.heap.size w w') : DecTo w S (.returned (.tuple #[.agg #[.string ⟨#[]⟩, .slice none 0 0], .int .i64 E])) w' :=
  ⟨.slice none 0 0, by rw [h]; rfl, by rw [h]; exact VRow.of_row (own_nil w' 0 65 2), hb⟩
theorem take_more (la : List Rf) (x : Rf) (h : la.length ≤ 256) : (la ++ [x]).take 257 = la.take 257 ++ [x] := by
  rw [List.take_of_length_le (by simp; omega), List.take_of_length_le (by omega)]
theorem take_same (la : List Rf) (x : Rf) (h : ¬ la.length ≤ 256) : (la ++ [x]).take 257 = la.take 257 := by
  rw [List.take_append_of_le_length (by omega)]
end Go.Proofs.YtknmmlfdlfioiaaGreatDoor.Rf
