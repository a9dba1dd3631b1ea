/- Acts of a folder struck out of a row of any length, walked. Names that are well, whatever is done to them. SyncDir at any state, walked. Whether there is a folder, at any state; SyncDir refused; the whole ahead of its first step. The whole ahead of its first step: what the calls see of it. The power fails at any state: what it calls. The power fails at any state, walked. A plain picture of folders and files: names as functions, files by their numbers; what is done to names, and how maps stand for them. The whole stands for a plain picture: what holds, and how a call's leavings are closed. The calls of vfs over a plain picture: Mkdir, Remove, Rename, Sync, Read, Write. The calls of vfs over a plain picture: Sync, Write, SyncDir. The calls of vfs over a plain picture: SyncDir; a fall; power again; a whole without power. A whole without power refuses all; a new one, and its first folder. A new whole: its first file, a name that is not there, a fall that finds nothing, power again. What the calls see of the whole ahead of a step; a step at which the power fails: each call tells it. A fall that is planned: Plan, walked at none and at one; a whole with another plan; a step at which it strikes. A fall that strikes in a call, at a plain picture. A new whole with a fall planned; calls that take no step, whatever is planned. (Printed by mkstd.py off Fsx, Vnl, Rph, Stb, Syg, Sta.) -/
import Derived.Test.YtknmmlfdlfioiaaGreatDoorVcAll
import Derived.Laws.IdiomRangeMap
import Derived.Maps.Ext
namespace Go.Proofs.YtknmmlfdlfioiaaGreatDoor.Vc
open Go.RowKit Go.Shelf Go.Maps
variable {B0 : Nat} {A : Nat → Prop} {pl : Value}
def outs (q : ByteArray) (l : List Ac) : List Ac := l.filter fun a => !inA q a
/-- The row while acts are struck: those that stay lie in front, what was not looked at lies where it lay. -/
structure DMem (g c pb : Nat) (q : ByteArray) (l : List Ac) (i j : Nat) (w0 w : World) : Prop where
  kept : Kept [g] w0 w
  pcell : w.heap[pb]? = some (.cells #[.string q] 9 (0, 0))
  row : ∃ arr, w.heap[g]? = some (.cells arr 69 (0, 0)) ∧ arr.size = c * 4 ∧ arr.toList.take (i * 4) = acsV (outs q (l.take j)) ∧ ∀ t a, j ≤ t → l[t]? = some a → ∀ r, r < 4 → arr[t * 4 + r]? = (acV a)[r]?
  cnt : (outs q (l.take j)).length = i
theorem DMem.four {g c pb i j : Nat} {q : ByteArray} {l : List Ac} {w0 w : World} (h : DMem g c pb q l i j w0 w) {t : Nat} {a : Ac} (ht : j ≤ t) (ha : l[t]? = some a) : Four w g t a := by
  obtain ⟨arr, h1, _, _, h4⟩ := h.row
  have e : ∀ r, r < 4 → w.cell? ⟨g, t * 4 + r, none⟩ = (acV a)[r]? := fun r hr => by rw [cell_of_row _ _ _ _ _ _ h1, h4 t a ht ha r hr]
  exact ⟨by have := e 0 (by omega); rw [Nat.add_zero] at this; exact this, e 1 (by omega), e 2 (by omega), e 3 (by omega)⟩
theorem DMem.under {g c pb i j : Nat} {q : ByteArray} {l : List Ac} {w0 w w' : World} (h : DMem g c pb q l i j w0 w) (hk : Kept [] w w') : DMem g c pb q l i j w0 w' := by
  obtain ⟨arr, h1, r⟩ := h.row
  exact ⟨(h.kept.trans hk).sub (by simp), hk.fs h.pcell (by simp), ⟨arr, hk.fs h1 (by simp), r⟩, h.cnt⟩
theorem outs_take (q : ByteArray) {l : List Ac} {j : Nat} {a : Ac} (ha : l[j]? = some a) : outs q (l.take (j + 1)) = outs q (l.take j) ++ (if inA q a then [] else [a]) := by
  obtain ⟨hj, e⟩ := List.getElem?_eq_some_iff.1 ha
  rw [List.take_succ_eq_append_getElem hj, outs, List.filter_append, e]
  cases h : inA q a <;> simp [outs, h]
theorem outs_len (q : ByteArray) (l : List Ac) (j : Nat) : (outs q (l.take j)).length ≤ j := by
  refine Nat.le_trans (List.length_filter_le _ _) ?_
  rw [List.length_take]; omega
/-- One that is struck is passed over. -/
theorem DMem.skip {g c pb i j : Nat} {q : ByteArray} {l : List Ac} {w0 w : World} (h : DMem g c pb q l i j w0 w) {a : Ac} (ha : l[j]? = some a) (hin : inA q a = true) : DMem g c pb q l i (j + 1) w0 w := by
  obtain ⟨arr, h1, h2, h3, h4⟩ := h.row
  have e := outs_take q ha
  rw [hin, if_pos rfl, List.append_nil] at e
  exact ⟨h.kept, h.pcell, ⟨arr, h1, h2, by rw [e]; exact h3, fun t b ht hb => h4 t b (by omega) hb⟩, by rw [e]; exact h.cnt⟩
/-- Four cells that are stored one behind the other. -/
def put4 (w : World) (g x : Nat) (a : Ac) : World := (((w.setCell ⟨g, x * 4, none⟩ (.int .i64 a.kind)).setCell ⟨g, x * 4 + 1, none⟩ (.string a.p)).setCell ⟨g, x * 4 + 2, none⟩ (.string a.to)).setCell ⟨g, x * 4 + 3, none⟩ (.pointer a.f)
structure Puts (w : World) (g x : Nat) (a : Ac) : Prop where
  c0 : ∃ u, w.cell? ⟨g, x * 4, none⟩ = some u
  c1 : ∃ u, (w.setCell ⟨g, x * 4, none⟩ (.int .i64 a.kind)).cell? ⟨g, x * 4 + 1, none⟩ = some u
  c2 : ∃ u, ((w.setCell ⟨g, x * 4, none⟩ (.int .i64 a.kind)).setCell ⟨g, x * 4 + 1, none⟩ (.string a.p)).cell? ⟨g, x * 4 + 2, none⟩ = some u
  c3 : ∃ u, (((w.setCell ⟨g, x * 4, none⟩ (.int .i64 a.kind)).setCell ⟨g, x * 4 + 1, none⟩ (.string a.p)).setCell ⟨g, x * 4 + 2, none⟩ (.string a.to)).cell? ⟨g, x * 4 + 3, none⟩ = some u
  f0 : w.frozen? ⟨g, x * 4, none⟩ = false
  f1 : (w.setCell ⟨g, x * 4, none⟩ (.int .i64 a.kind)).frozen? ⟨g, x * 4 + 1, none⟩ = false
  f2 : ((w.setCell ⟨g, x * 4, none⟩ (.int .i64 a.kind)).setCell ⟨g, x * 4 + 1, none⟩ (.string a.p)).frozen? ⟨g, x * 4 + 2, none⟩ = false
  f3 : (((w.setCell ⟨g, x * 4, none⟩ (.int .i64 a.kind)).setCell ⟨g, x * 4 + 1, none⟩ (.string a.p)).setCell ⟨g, x * 4 + 2, none⟩ (.string a.to)).frozen? ⟨g, x * 4 + 3, none⟩ = false
def arr4 (arr : Array Value) (x : Nat) (a : Ac) : Array Value := (((arr.setIfInBounds (x * 4) (.int .i64 a.kind)).setIfInBounds (x * 4 + 1) (.string a.p)).setIfInBounds (x * 4 + 2) (.string a.to)).setIfInBounds (x * 4 + 3) (.pointer a.f)
theorem arr4_size (arr : Array Value) (x : Nat) (a : Ac) : (arr4 arr x a).size = arr.size := by simp [arr4]
theorem arr4_other (arr : Array Value) (x : Nat) (a : Ac) (n : Nat) (h : n < x * 4 ∨ x * 4 + 4 ≤ n) : (arr4 arr x a)[n]? = arr[n]? := by
  unfold arr4
  rw [Array.getElem?_setIfInBounds_ne (by omega), Array.getElem?_setIfInBounds_ne (by omega), Array.getElem?_setIfInBounds_ne (by omega), Array.getElem?_setIfInBounds_ne (by omega)]
theorem arr4_at (arr : Array Value) (x : Nat) (a : Ac) (hs : x * 4 + 4 ≤ arr.size) (r : Nat) (hr : r < 4) : (arr4 arr x a)[x * 4 + r]? = (acV a)[r]? := by
  unfold arr4
  have : r = 0 ∨ r = 1 ∨ r = 2 ∨ r = 3 := by omega
  rcases this with rfl | rfl | rfl | rfl
  · rw [Array.getElem?_setIfInBounds_ne (by omega), Array.getElem?_setIfInBounds_ne (by omega), Array.getElem?_setIfInBounds_ne (by omega), Nat.add_zero, Array.getElem?_setIfInBounds_self_of_lt (by omega)]; rfl
  · rw [Array.getElem?_setIfInBounds_ne (by omega), Array.getElem?_setIfInBounds_ne (by omega), Array.getElem?_setIfInBounds_self_of_lt (by simp; omega)]; rfl
  · rw [Array.getElem?_setIfInBounds_ne (by omega), Array.getElem?_setIfInBounds_self_of_lt (by simp; omega)]; rfl
  · rw [Array.getElem?_setIfInBounds_self_of_lt (by simp; omega)]; rfl
theorem put4_row {w : World} {g x : Nat} {arr : Array Value} {t : TypeId} (a : Ac) (h : w.heap[g]? = some (.cells arr t (0, 0))) (hs : x * 4 + 4 ≤ arr.size) : Puts w g x a ∧ (put4 w g x a).heap[g]? = some (.cells (arr4 arr x a) t (0, 0)) ∧ Kept [g] w (put4 w g x a) := by
  have h1 := heap_setCell_same w g (x * 4) _ t (.int .i64 a.kind) h
  have h2 := heap_setCell_same _ g (x * 4 + 1) _ t (.string a.p) h1
  have h3 := heap_setCell_same _ g (x * 4 + 2) _ t (.string a.to) h2
  have h4 := heap_setCell_same _ g (x * 4 + 3) _ t (.pointer a.f) h3
  have ex : ∀ {W : World} {b : Array Value} {n : Nat}, W.heap[g]? = some (.cells b t (0, 0)) → n < b.size → ∃ u, W.cell? ⟨g, n, none⟩ = some u := fun hW hn => ⟨_, by rw [cell_of_row _ _ _ _ _ _ hW]; exact Array.getElem?_eq_getElem hn⟩
  refine ⟨⟨ex h (by omega), ex h1 (by simp; omega), ex h2 (by simp; omega), ex h3 (by simp; omega), thawAt h _, thawAt h1 _, thawAt h2 _, thawAt h3 _⟩, h4, ?_⟩
  exact ((((Kept.set g _ _).trans (Kept.set g _ _)).trans (Kept.set g _ _)).trans (Kept.set g _ _)).sub (by simp)
/-- One that stays is laid in front. -/
theorem DMem.put {g c pb i j : Nat} {q : ByteArray} {l : List Ac} {w0 w : World} (h : DMem g c pb q l i j w0 w) {a : Ac} (ha : l[j]? = some a) (hin : inA q a = false) (hij : i < j) (hjc : j < c) (hgp : pb ≠ g) : Puts w g i a ∧ DMem g c pb q l (i + 1) (j + 1) w0 (put4 w g i a) := by
  obtain ⟨arr, h1, h2, h3, h4⟩ := h.row
  obtain ⟨p1, p2, p3⟩ := put4_row (x := i) a h1 (by omega)
  have e := outs_take q ha
  rw [hin, if_neg (by simp)] at e
  refine ⟨p1, (h.kept.trans p3).sub (by simp), p3.fs h.pcell (by simpa using hgp), ⟨_, p2, by rw [arr4_size]; exact h2, ?_, fun t b ht hb r hr => ?_⟩, ?_⟩
  · have hl3 : (acsV (outs q (l.take j))).length = i * 4 := by rw [acsV_len, h.cnt]
    rw [e, acsV_append, ← h3]
    apply List.ext_getElem?
    intro n
    rw [List.getElem?_take]
    by_cases hn : n < (i + 1) * 4
    · rw [if_pos hn, Array.getElem?_toList]
      by_cases hn2 : n < i * 4
      · rw [arr4_other arr i a n (.inl hn2), List.getElem?_append_left (by rw [h3, hl3]; exact hn2), List.getElem?_take, if_pos hn2, Array.getElem?_toList]
      · obtain ⟨r, rfl⟩ : ∃ r, n = i * 4 + r := ⟨n - i * 4, by omega⟩
        rw [arr4_at arr i a (by omega) r (by omega), List.getElem?_append_right (by rw [h3, hl3]; omega), h3, hl3, Nat.add_sub_cancel_left]
        simp [acsV]
    · rw [if_neg hn, List.getElem?_eq_none (by rw [List.length_append, h3, hl3, acsV_len]; simp; omega)]
  · rw [arr4_other arr i a _ (.inr (by omega))]
    exact h4 t b (by omega) hb r hr
  · rw [e, List.length_append, h.cnt]; rfl
def zeroA : Array Value := #[.int .i64 0, .string ⟨#[]⟩, .string ⟨#[]⟩, .pointer none]
theorem zero_one (m : Nat) : ∀ v ∈ (Builtin.zeroCells zeroA m).toList, v.oneCell' = true := by
  intro v hv
  simp only [Builtin.zeroCells, Array.toList_map, List.mem_map] at hv
  obtain ⟨i, _, rfl⟩ := hv
  have : i % zeroA.size = 0 ∨ i % zeroA.size = 1 ∨ i % zeroA.size = 2 ∨ i % zeroA.size = 3 := by
    have : i % zeroA.size < 4 := Nat.mod_lt _ (by decide)
    omega
  rcases this with h | h | h | h <;> rw [h] <;> rfl
theorem run_clear_acts (w : World) (ty : TypeId) (g o m c : Nat) (hm : 0 < m) (hc : ∀ j, j < m * 4 → (w.cell? ⟨g, o + j, none⟩).isSome = true) (hf : ∀ j, w.frozen? ⟨g, o + j, none⟩ = false) :
    (Builtin.clear_ #[51] ty #[.slice (some ⟨g, o, none⟩) m c]).run Tryz.prog w = .ok (.tuple #[]) (w.setCells g o (Builtin.zeroCells zeroA m).toList) := by
  obtain ⟨n, rfl⟩ : ∃ n, m = n + 1 := ⟨m - 1, by omega⟩
  have hz : ∀ w, (zeroValue 69).run Tryz.prog w = .ok (.agg zeroA) w := fun w => by kernel_rfl
  have hlen : (Builtin.zeroCells zeroA (n + 1)).toList.length = (n + 1) * 4 := by rw [Array.length_toList, size_zeroCells]; rfl
  have hst := run_storeCells_cells (P := Tryz.prog) g o (Builtin.zeroCells zeroA (n + 1)).toList 0 w (by rw [hlen]; simpa using hc) (by intro j _; rw [Nat.add_zero]; exact hf j) (zero_one (n + 1))
  simp only [Nat.add_zero] at hst
  have hcl : (Value.agg zeroA).cells = zeroA := rfl
  simp [Builtin.clear_, run_underlying Tryz.underlying51, hz, hcl, hst]
theorem setCells_from {g : Nat} {t : TypeId} : ∀ (vs : List Value) (o : Nat) (w : World) (arr : Array Value), w.heap[g]? = some (.cells arr t (0, 0)) → ∃ arr', (w.setCells g o vs).heap[g]? = some (.cells arr' t (0, 0)) ∧ arr'.size = arr.size ∧ (∀ n, n < o → arr'[n]? = arr[n]?) ∧ Kept [g] w (w.setCells g o vs)
  | [], _, _, arr, h => ⟨arr, h, rfl, fun _ _ => rfl, Kept.refl _ _⟩
  | v :: vs, o, w, arr, h => by
    obtain ⟨a, h1, h2, h3, h4⟩ := setCells_from vs (o + 1) (w.setCell ⟨g, o, none⟩ v) _ (heap_setCell_same w g o _ t v h)
    exact ⟨a, h1, by rw [h2]; simp, fun n hn => by rw [h3 n (by omega), Array.getElem?_setIfInBounds_ne (by omega)], ((Kept.set g o v).trans h4).sub (by simp)⟩
set_option maxHeartbeats 1600000 in
set_option maxRecDepth 100000 in
theorem delete_some (l : List Ac) (hok : ∀ a ∈ l, AcOK a) (q : ByteArray) (w : World) (pb g c k : Nat) (hlk : l.length = k) (hk : k < 4000000) (hpb : w.heap[pb]? = some (.cells #[.string q] 9 (0, 0))) (hr : w.ownsRow B0 69 4 (.slice (some ⟨g, 0, none⟩) k c) k (acsV l)) (hah : ahead q l ≠ k) :
    Calls Tryz.prog 71 #[.slice (some ⟨g, 0, none⟩) k c, .func (.func 72) #[] #[.pointer (some ⟨pb, 0, none⟩)]] w fun e w' => e = .returned (.slice (some ⟨g, 0, none⟩) (outs q l).length c) ∧ w'.ownsRow B0 69 4 (.slice (some ⟨g, 0, none⟩) (outs q l).length c) (outs q l).length (acsV (outs q l)) ∧ Kept [g] w w' := by
  have HI := hideIt (index_gen l hok q w pb hpb _ k hlk hk hr)
  obtain ⟨i, hi⟩ : ∃ i, ahead q l = i := ⟨_, rfl⟩
  have e1 : idxI q l k = (i : Int) := by rw [idxI, if_neg hah, hi]
  rw [e1] at HI
  have hile := ahead_le q l
  have de := del_enters'
  have HOK := hideIt hok
  have HR := hideIt hr
  have HL := hideIt hlk
  have HP := hideIt hpb
  have iI : (i : Int) < 4000000 := by omega
  have i1 : ¬ (i : Int) = -1 := by omega
  have i2 : ((i : Int) == -1) = false := beq_eq_false_iff_ne.2 i1
  have kI : (k : Int) < 4000000 := by omega
  have HAI := hideIt (And.intro hi hah)
  have hik : i < k := by omega
  have HST : Hid (∀ X, Kept [] w X → DMem g c pb q l i (i + 1) w X) := by
    refine hideIt (fun X hX => ?_)
    rcases HR.out.2 with ⟨e, _⟩ | ⟨g', cap, cur, e, hBg, hg, hkc, hcm, hcs, htk⟩
    · cases e
    simp only [Value.slice.injEq, Option.some.injEq, Addr.mk.injEq, and_true, true_and] at e
    obtain ⟨rfl, rfl⟩ := e
    have hpre : ∀ t b, t < i → l[t]? = some b → inA q b = false := by
      have gen : ∀ (l : List Ac) (t : Nat) (b : Ac), t < ahead q l → l[t]? = some b → inA q b = false := by
        intro l
        induction l with
        | nil => intro t b h1 h2; simp at h2
        | cons a l ih =>
          intro t b h1 h2
          rw [ahead] at h1
          by_cases hin : inA q a = true
          · rw [if_pos hin] at h1; omega
          · rw [if_neg hin] at h1
            cases t with
            | zero => simp at h2; subst h2; simpa using hin
            | succ t => exact ih t b (by omega) (by simpa using h2)
      intro t b h1 h2
      exact gen l t b (by rw [HAI.out.1]; exact h1) h2
    have hti : outs q (l.take i) = l.take i := by
      unfold outs
      rw [List.filter_eq_self]
      intro b hb
      obtain ⟨t, ht⟩ := List.mem_iff_getElem?.1 hb
      rw [List.getElem?_take] at ht
      by_cases h1 : t < i
      · rw [if_pos h1] at ht
        rw [hpre t b h1 ht]; rfl
      · rw [if_neg h1] at ht; cases ht
    obtain ⟨a, ha⟩ : ∃ a, l[i]? = some a := ⟨l[i]'(by rw [HL.out]; exact hik), by simp⟩
    have hin : inA q a = true := by
      have := ahead_skip q l i hpre (by rw [HL.out]; omega)
      rw [HAI.out.1, List.drop_eq_getElem_cons (by rw [HL.out]; exact hik), ahead] at this
      have e2 : l[i]'(by rw [HL.out]; exact hik) = a := by rw [List.getElem?_eq_getElem (by rw [HL.out]; exact hik)] at ha; exact Option.some.inj ha
      rw [e2] at this
      by_cases hh : inA q a = true
      · exact hh
      · rw [if_neg hh] at this; omega
    have eo := outs_take q ha
    rw [hin, if_pos rfl, List.append_nil, hti] at eo
    refine ⟨hX.sub (by simp), hX.fs HP.out (by simp), ⟨cur, hX.fs hg (by simp), hcs, ?_, fun t b ht hb r hr => ?_⟩, ?_⟩
    · rw [eo, show i * 4 = min (i * 4) (k * 4) by omega, ← List.take_take, htk]
      have e3 : acsV l = acsV (l.take i) ++ acsV (l.drop i) := by rw [← acsV_append, List.take_append_drop]
      have e4 : (acsV (l.take i)).length = i * 4 := by rw [acsV_len, List.length_take, HL.out]; congr 1; omega
      rw [e3, ← e4, List.take_left]
    · have htl : t < k := by rw [← HL.out]; exact (List.getElem?_eq_some_iff.1 hb).1
      rw [← acsV_at l t r b hb hr, ← htk, List.getElem?_take, if_pos (by omega), Array.getElem?_toList]
    · rw [eo, List.length_take, HL.out]; omega
  have HGP : Hid (pb ≠ g ∧ k ≤ c) := by
    refine hideIt ?_
    rcases HR.out.2 with ⟨e, _⟩ | ⟨g', cap, cur, e, hBg, hg, hkc, hcm, hcs, htk⟩
    · cases e
    simp only [Value.slice.injEq, Option.some.injEq, Addr.mk.injEq, and_true, true_and] at e
    obtain ⟨rfl, rfl⟩ := e
    refine ⟨fun e2 => ?_, hkc⟩
    subst e2
    have := HP.out
    rw [hg] at this
    simp only [Option.some.injEq, Obj.cells.injEq] at this
    exact absurd this.2.1 (by decide)
  clear hr hpb hok hlk hi hah e1 hile
  go_enter Tryz.func71, Tryz.ntmps71
  go_wp2_with (first | (go_at_call 87; refine HI.out.mono ?_; rintro e w1 ⟨rfl, hk1⟩; have HK1 := hideIt hk1; clear hk1))
  go_loopw [5, 6] (fun a b wr => ∃ x y : Nat, x < y ∧ y ≤ k ∧ a = .int .i64 x ∧ b = .int .i64 y ∧ DMem g c pb q l x y w wr) (fun _ b _ => k - (intOf b).toNat)
  case atStart =>
    refine ⟨i, i + 1, by omega, by omega, rfl, rfl, ?_⟩
    exact HST.out w1 HK1.out
  case round =>
    obtain ⟨x, y, hxy, hyk, rfl, rfl, hm⟩ := hrel
    clear HK1
    by_cases hlt : y < k
    · have hid : decide ((y : Int) < (k : Int)) = true := decide_eq_true (by omega)
      have y1 : (y : Int) < (k : Int) := by omega
      have x1 : (x : Int) < (k : Int) := by omega
      obtain ⟨a, ha⟩ : ∃ a, l[y]? = some a := ⟨l[y]'(by rw [HL.out]; exact hlt), by simp⟩
      have f4 := hm.four (Nat.le_refl _) ha
      have c0 := f4.c0
      have c1 := f4.c1
      have c2 := f4.c2
      have c3 := f4.c3
      have hkA : Kept [] wr (wr.alloc (.cells #[.int .i64 a.kind, .string a.p, .string a.to, .pointer a.f] 69)) := Kept.alloc _ _
      obtain ⟨W, hW⟩ : ∃ W, wr.alloc (.cells #[.int .i64 a.kind, .string a.p, .string a.to, .pointer a.f] 69) = W := ⟨_, rfl⟩
      have hrw : W.heap[wr.heap.size]? = some (.cells #[.int .i64 a.kind, .string a.p, .string a.to, .pointer a.f] 69 (0, 0)) := by rw [← hW]; exact alloc_at rfl
      rw [hW] at hkA
      have hmW := hm.under hkA
      have hak := HOK.out a (List.mem_of_getElem? ha)
      have HIN := hideIt (del_gen a.kind hak.1 a.p a.to q hak.2.1 hak.2.2 a.f W pb (cellAt hmW.pcell rfl) (block_lt hmW.pcell))
      obtain ⟨z, hz⟩ : ∃ z, inB a.kind a.p a.to q = z := ⟨_, rfl⟩
      rw [hz] at HIN
      have HZ : Hid (inA q a = z) := hideIt hz
      have d0 : W.cell? ⟨wr.heap.size, 0, none⟩ = some (.int .i64 a.kind) := cellAt hrw rfl
      have d1 : W.cell? ⟨wr.heap.size, 1, none⟩ = some (.string a.p) := cellAt hrw rfl
      have d2 : W.cell? ⟨wr.heap.size, 2, none⟩ = some (.string a.to) := cellAt hrw rfl
      have d3 : W.cell? ⟨wr.heap.size, 3, none⟩ = some (.pointer a.f) := cellAt hrw rfl
      have HMW := hideIt hmW
      have HRW := hideIt hrw
      have HA := hideIt ha
      clear hm f4 hkA hrw hmW hak hz ha
      cases z with
      | true =>
        go_wp2_with (first | (go_at_call 72; refine HIN.out.mono ?_; rintro e w2 ⟨rfl, hk2⟩))
        go_roundw
        case rel => exact ⟨x, y + 1, by omega, by omega, rfl, by go_num, (HMW.out.under hk2).skip HA.out HZ.out⟩
        case measure => simp [intOf]; omega
      | false =>
        go_wp2_with (first | (go_at_call 72; refine HIN.out.mono ?_; rintro e w2 ⟨rfl, hk2⟩; have hr2 := hk2.fs HRW.out (by simp); have e0 : w2.cell? ⟨wr.heap.size, 0, none⟩ = some (.int .i64 a.kind) := cellAt hr2 rfl; have e1 : w2.cell? ⟨wr.heap.size, 1, none⟩ = some (.string a.p) := cellAt hr2 rfl; have e2 : w2.cell? ⟨wr.heap.size, 2, none⟩ = some (.string a.to) := cellAt hr2 rfl; have e3 : w2.cell? ⟨wr.heap.size, 3, none⟩ = some (.pointer a.f) := cellAt hr2 rfl; obtain ⟨pp, hd⟩ := (HMW.out.under hk2).put HA.out HZ.out hxy (by have := HGP.out.2; omega) HGP.out.1; have HDD := hideIt hd; obtain ⟨u0, s0⟩ := pp.c0; obtain ⟨u1, s1⟩ := pp.c1; obtain ⟨u2, s2⟩ := pp.c2; obtain ⟨u3, s3⟩ := pp.c3; have t0 := pp.f0; have t1 := pp.f1; have t2 := pp.f2; have t3 := pp.f3; clear pp hd hr2 hk2))
        go_roundw
        case rel => exact ⟨x + 1, y + 1, by omega, by omega, by go_num, by go_num, HDD.out⟩
        case measure => simp [intOf]; omega
    · have hid : decide ((y : Int) < (k : Int)) = false := decide_eq_false (by omega)
      obtain rfl : y = k := by omega
      have x1 : (x : Int) ≤ (y : Int) := by omega
      have c1 : (y : Int) ≤ (c : Int) := by have := HGP.out.2; omega
      have x2 : (x : Int) ≤ (c : Int) := by omega
      have hcl : (Builtin.clear_ #[51] 0 #[.slice (some ⟨g, x * 4, none⟩) (y - x) (c - x)]).run Tryz.prog wr = .ok (.tuple #[]) (wr.setCells g (x * 4) (Builtin.zeroCells zeroA (y - x)).toList) := by
        obtain ⟨arr, h1, h2, _, _⟩ := hm.row
        refine run_clear_acts wr 0 g (x * 4) (y - x) (c - x) (by omega) (fun j hj => ?_) (fun j => thawAt h1 _)
        have := HGP.out.2
        rw [cell_of_row _ _ _ _ _ _ h1, Array.getElem?_eq_getElem (by rw [h2]; omega)]
        rfl
      have HFIN : Hid (x = (outs q l).length ∧ (wr.setCells g (x * 4) (Builtin.zeroCells zeroA (y - x)).toList).ownsRow B0 69 4 (.slice (some ⟨g, 0, none⟩) (outs q l).length c) (outs q l).length (acsV (outs q l)) ∧ Kept [g] w (wr.setCells g (x * 4) (Builtin.zeroCells zeroA (y - x)).toList)) := by
        refine hideIt ?_
        have hcn := hm.cnt
        have hto : l.take y = l := List.take_of_length_le (by rw [HL.out]; exact Nat.le_refl _)
        rw [hto] at hcn
        obtain ⟨arr, h1, h2, h3, _⟩ := hm.row
        rw [hto] at h3
        obtain ⟨arr', k1, k2, k3, k4⟩ := setCells_from (Builtin.zeroCells zeroA (y - x)).toList (x * 4) wr arr h1
        rcases HR.out.2 with ⟨e, _⟩ | ⟨g', cap, cur, e, hBg, _, hkc, hcm, _, _⟩
        · cases e
        simp only [Value.slice.injEq, Option.some.injEq, Addr.mk.injEq, and_true, true_and] at e
        obtain ⟨rfl, rfl⟩ := e
        refine ⟨hcn.symm, ⟨acsV_len _, .inr ⟨g, c, arr', rfl, hBg, k1, by rw [hcn]; omega, hcm, by rw [k2, h2], ?_⟩⟩, (hm.kept.trans k4).sub (by simp)⟩
        rw [hcn, ← h3]
        apply List.ext_getElem?
        intro n
        rw [List.getElem?_take, List.getElem?_take]
        by_cases hn : n < x * 4
        · rw [if_pos hn, if_pos hn, Array.getElem?_toList, Array.getElem?_toList, k3 n hn]
        · rw [if_neg hn, if_neg hn]
      clear HST hm
      go_wp2
      go_ret
      exact ⟨by rw [← HFIN.out.1]; rfl, HFIN.out.2.1, HFIN.out.2.2⟩
theorem outs_all (q : ByteArray) : ∀ l : List Ac, ahead q l = l.length → outs q l = l
  | [], _ => rfl
  | a :: t, h => by
    rw [ahead] at h
    by_cases hin : inA q a = true
    · rw [if_pos hin] at h; simp at h
    · rw [if_neg hin] at h
      have := outs_all q t (by simpa using h)
      unfold outs at this ⊢
      rw [List.filter_cons, if_pos (by simpa using hin), this]
set_option maxHeartbeats 400000 in
set_option maxRecDepth 100000 in
/-- Acts of a folder are struck: the others stay in their order. -/
theorem delete_gen (l : List Ac) (hok : ∀ a ∈ l, AcOK a) (q : ByteArray) (w : World) (pb k : Nat) (v : Value) (hlk : l.length = k) (hk : k < 4000000) (hpb : w.heap[pb]? = some (.cells #[.string q] 9 (0, 0))) (hr : w.ownsRow B0 69 4 v k (acsV l)) :
    Calls Tryz.prog 71 #[v, .func (.func 72) #[] #[.pointer (some ⟨pb, 0, none⟩)]] w fun e w' => ∃ v', e = .returned v' ∧ v'.ownBlock = v.ownBlock ∧ w'.ownsRow B0 69 4 v' (outs q l).length (acsV (outs q l)) ∧ Kept v.ownBlock.toList w w' := by
  by_cases hah : ahead q l = k
  · have HI := hideIt (index_gen l hok q w pb hpb v k hlk hk hr)
    have e1 : idxI q l k = -1 := by rw [idxI, if_pos hah]
    rw [e1] at HI
    have HO : Hid (outs q l = l) := hideIt (outs_all q l (by rw [hah, hlk]))
    have HR := hideIt hr
    have HL := hideIt hlk
    have de := del_enters'
    clear hr hpb hok hah e1 hlk
    go_enter Tryz.func71, Tryz.ntmps71
    go_wp2_with (first | (go_at_call 87; refine HI.out.mono ?_; rintro e w1 ⟨rfl, hk1⟩; have HK1 := hideIt hk1; clear hk1))
    go_ret
    exact ⟨v, rfl, rfl, by rw [HO.out, HL.out]; exact HK1.out.row HR.out (by simp), HK1.out.sub (by simp)⟩
  · have hv : ∃ g c, v = .slice (some ⟨g, 0, none⟩) k c := by
      rcases hr.2 with ⟨_, e2⟩ | ⟨g, cap, cur, e, _⟩
      · have := ahead_le q l; omega
      · exact ⟨_, _, e⟩
    obtain ⟨g, c, rfl⟩ := hv
    exact (delete_some l hok q w pb g c k hlk hk hpb hr hah).mono fun e w' ⟨h1, h2, h3⟩ => ⟨_, h1, rfl, h2, by simpa [Value.ownBlock] using h3⟩
end Go.Proofs.YtknmmlfdlfioiaaGreatDoor.Vc
namespace Go.Proofs.YtknmmlfdlfioiaaGreatDoor.Vc
open Go.RowKit Go.Shelf Go.Maps
variable {B0 : Nat} {A : Nat → Prop} {pl : Value}
/-- Each key of a map and what stands under it are well. -/
structure MOK (V : Lit → Value → Prop) (D : DataW Value) : Prop where
  isMap : IsMap D
  vals : ∀ kl, Maps.has D kl = true → ∃ v, V kl v ∧ ∀ zd, D.atKey kl zd = .held v
theorem isKey (l : List UInt8) : WideAt.IsKeyLit (.string l) := trivial
theorem MOK.mono {V V' : Lit → Value → Prop} {D : DataW Value} (h : MOK V D) (hV : ∀ kl v, V kl v → V' kl v) : MOK V' D :=
  ⟨h.isMap, fun kl hk => by obtain ⟨v, h1, h2⟩ := h.vals kl hk; exact ⟨v, hV kl v h1, h2⟩⟩
theorem MOK.nothing (V : Lit → Value → Prop) : MOK V (.map []) := ⟨⟨[], rfl⟩, fun kl h => by cases h⟩
theorem isMap_put {D : DataW Value} (h : IsMap D) (k : Lit) (d : DataW Value) : IsMap (D.put k d) := by
  obtain ⟨es, rfl⟩ := h
  exact ⟨_, rfl⟩
theorem isMap_del {D : DataW Value} (h : IsMap D) (k : Lit) : IsMap (D.del k) := by
  obtain ⟨es, rfl⟩ := h
  exact ⟨_, rfl⟩
theorem MOK.putK {V : Lit → Value → Prop} {D : DataW Value} (h : MOK V D) {k : Lit} (hk : WideAt.IsKeyLit k) {v : Value} (hv : V k v) : MOK V (D.put k (.held v)) := by
  refine ⟨isMap_put h.isMap _ _, fun kl hkl => ?_⟩
  by_cases e : kl = k
  · subst e
    exact ⟨v, hv, fun zd => atKey_put_same h.isMap hk _ _⟩
  · rw [has_put_other e] at hkl
    obtain ⟨u, h1, h2⟩ := h.vals kl hkl
    exact ⟨u, h1, fun zd => by rw [atKey_put_other e]; exact h2 zd⟩
theorem MOK.put {V : Lit → Value → Prop} {D : DataW Value} (h : MOK V D) (p : ByteArray) {v : Value} (hv : V (key p) v) : MOK V (D.put (key p) (.held v)) := h.putK (isKey _) hv
theorem MOK.del {V : Lit → Value → Prop} {D : DataW Value} (h : MOK V D) (k : Lit) : MOK V (D.del k) := by
  refine ⟨isMap_del h.isMap _, fun kl hkl => ?_⟩
  by_cases e : kl = k
  · subst e; rw [has_del_same] at hkl; cases hkl
  · rw [has_del_other e] at hkl
    obtain ⟨u, h1, h2⟩ := h.vals kl hkl
    exact ⟨u, h1, fun zd => by rw [atKey_del_other e]; exact h2 zd⟩
/-- What stands under a path. -/
theorem MOK.pv {V : Lit → Value → Prop} {D : DataW Value} (h : MOK V D) (hp : ∀ kl v, V kl v → ∃ a, v = .pointer a) (p : ByteArray) : valAt D (key p) = .pointer (pv D p) ∧ ((Maps.has D (key p) = false ∧ pv D p = none) ∨ (Maps.has D (key p) = true ∧ V (key p) (.pointer (pv D p)))) := by
  cases hh : Maps.has D (key p) with
  | false =>
    have e : valAt D (key p) = .pointer none := by unfold valAt; rw [atKey_of_not_has hh]; rfl
    have e2 : Go.Proofs.YtknmmlfdlfioiaaGreatDoor.Vc.pv D p = none := by unfold Go.Proofs.YtknmmlfdlfioiaaGreatDoor.Vc.pv; rw [e]
    exact ⟨by rw [e, e2], .inl ⟨rfl, e2⟩⟩
  | true =>
    obtain ⟨v, h1, h2⟩ := h.vals _ hh
    obtain ⟨a, rfl⟩ := hp _ _ h1
    have e : valAt D (key p) = .pointer a := by unfold valAt; rw [h2]; rfl
    have e2 : Go.Proofs.YtknmmlfdlfioiaaGreatDoor.Vc.pv D p = a := by unfold Go.Proofs.YtknmmlfdlfioiaaGreatDoor.Vc.pv; rw [e]
    exact ⟨by rw [e, e2], .inr ⟨rfl, by rw [e2]; exact h1⟩⟩
theorem MOK.ptrs {V : Lit → Value → Prop} {D : DataW Value} (h : MOK V D) (hp : ∀ kl v, V kl v → ∃ a, v = .pointer a) : Ptrs D := fun p => (h.pv hp p).1
/-- What was done once more: to other names. -/
def DoTo (D : DataW Value) (a : Ac) (D' : DataW Value) : Prop := (a.kind = 0 ∧ D' = comesD D a.p (.pointer a.f)) ∨ (a.kind = 1 ∧ MovesTo D a.p a.to a.f D') ∨ (a.kind = 2 ∧ GoesTo D a.p a.f D')
def Dos (D : DataW Value) : List Ac → DataW Value → Prop
  | [], D' => D' = D
  | a :: t, D' => ∃ D1, DoTo D a D1 ∧ Dos D1 t D'
theorem Dos.snoc {D D1 D2 : DataW Value} : ∀ {l : List Ac} {a : Ac}, Dos D l D1 → DoTo D1 a D2 → Dos D (l ++ [a]) D2
  | [], a, h, k => by subst h; exact ⟨_, k, rfl⟩
  | b :: t, a, ⟨E, h1, h2⟩, k => ⟨E, h1, Dos.snoc h2 k⟩
/-- Acts that keep names well. -/
def ActV (V : Lit → Value → Prop) (a : Ac) : Prop := (a.kind = 0 → V (key a.p) (.pointer a.f)) ∧ (a.kind = 1 → V (key a.to) (.pointer a.f))
theorem MOK.comes {V : Lit → Value → Prop} {D : DataW Value} (h : MOK V D) (p : ByteArray) {v : Value} (hv : V (key p) v) : MOK V (comesD D p v) := by
  unfold comesD
  split
  · exact h.put p hv
  · exact h
theorem MOK.goes {V : Lit → Value → Prop} {D D' : DataW Value} (h : MOK V D) {p : ByteArray} {f : Option Addr} (hg : GoesTo D p f D') : MOK V D' := by
  rcases hg with ⟨e, _⟩ | ⟨e, _⟩
  · rw [e]; exact h.del _
  · rw [e]; exact h
theorem MOK.moves {V : Lit → Value → Prop} {D D' : DataW Value} (h : MOK V D) {p to : ByteArray} {f : Option Addr} (hv : V (key to) (.pointer f)) (hg : MovesTo D p to f D') : MOK V D' := by
  rcases hg with ⟨e, _⟩ | ⟨e, _⟩
  · rw [e]
    split
    · exact (h.del _).put to hv
    · exact h.put to hv
  · rw [e]; exact h
theorem MOK.does {V : Lit → Value → Prop} {D D' : DataW Value} {a : Ac} (h : MOK V D) (ha : ActV V a) (hd : DoTo D a D') : MOK V D' := by
  rcases hd with ⟨e, hd⟩ | ⟨e, hd⟩ | ⟨_, hd⟩
  · rw [hd]; exact h.comes _ (ha.1 e)
  · exact h.moves (ha.2 e) hd
  · exact h.goes hd
/-- A name and what stands under it, at a world. -/
def VW (A : Nat → Prop) (w : World) (fb : Nat) (kl : Lit) (v : Value) : Prop := ∃ l a, kl = .string l ∧ l.length ≤ 1000 ∧ v = .pointer a ∧ PtrOK A w fb a
theorem VW.ptr {w : World} {fb : Nat} {E : Lit → Value → Prop} : ∀ kl v, (VW A w fb kl v ∧ E kl v) → ∃ a, v = .pointer a := fun _ _ ⟨⟨_, a, _, _, h, _⟩, _⟩ => ⟨a, h⟩
theorem VW.frm {w w' : World} {fb : Nat} {xo : Nat → Prop} {kl : Lit} {v : Value} (h : VW A w fb kl v) (hf : Frm A fb xo w w') : VW A w' fb kl v := by
  obtain ⟨l, a, h1, h2, h3, h4⟩ := h
  exact ⟨l, a, h1, h2, h3, h4.frm hf⟩
/-- Names that are well at a world, and more of them. -/
abbrev NamesOK (A : Nat → Prop) (w : World) (fb : Nat) (E : Lit → Value → Prop) (D : DataW Value) : Prop := MOK (fun kl v => VW A w fb kl v ∧ E kl v) D
theorem MOK.wellP {w : World} {fb : Nat} {E : Lit → Value → Prop} {D : DataW Value} (h : NamesOK A w fb E D) : Ptrs D ∧ (∀ l, Maps.has D (.string l) = true → l.length ≤ 1000) ∧ ∀ q, PtrOK A w fb (Go.Proofs.YtknmmlfdlfioiaaGreatDoor.Vc.pv D q) := by
  refine ⟨h.ptrs VW.ptr, fun l hl => ?_, fun q => ?_⟩
  · obtain ⟨v, ⟨⟨l', _, e, hl', _⟩, _⟩, _⟩ := h.vals _ hl
    simp only [Lit.string.injEq] at e
    rw [e]; exact hl'
  · rcases (h.pv VW.ptr q).2 with ⟨_, e⟩ | ⟨_, ⟨⟨l, a, _, _, e, hP⟩, _⟩⟩
    · exact .inl e
    · simp only [Value.pointer.injEq] at e
      rw [e]; exact hP
theorem MOK.frm {w w' : World} {fb : Nat} {xo : Nat → Prop} {E : Lit → Value → Prop} {D : DataW Value} (h : NamesOK A w fb E D) (hf : Frm A fb xo w w') : NamesOK A w' fb E D := h.mono fun _ _ ⟨h1, h2⟩ => ⟨h1.frm hf, h2⟩
/-- Something is done to names, whatever they are. -/
theorem do_gen {w : World} {fb b n : Nat} {E : Lit → Value → Prop} {D : DataW Value} (hm : NMap w b n D) (hn : n < 90000000) (h : NamesOK A w fb E D) (a : Ac) (ha : AcOK a) (hf : PtrOK A w fb a.f) :
    Calls Tryz.prog 25 #[.map (some b), .agg #[.int .i64 a.kind, .string a.p, .string a.to, .pointer a.f]] w fun e w' => e = .returned (.tuple #[]) ∧ ∃ D' n', n' ≤ n + 1 ∧ DoTo D a D' ∧ NMap w' b n' D' ∧ Kept [b] w w' := by
  obtain ⟨h1, h2, h3⟩ := h.wellP
  obtain ⟨ki, p, to, f⟩ := a
  obtain ⟨hk, hp, ht⟩ := ha
  simp only at hk hp ht hf ⊢
  rcases hk with rfl | rfl | rfl
  · exact (do_comes_gen hm (by omega) h1 p to hp f).mono fun _ _ ⟨a1, a2, a3⟩ => ⟨a1, _, n + 1, Nat.le_refl _, .inl ⟨rfl, rfl⟩, a2, a3⟩
  · exact (do_moves_gen hm (by omega) h1 h2 p to hp ht f (fun X hX => ptr_eql (h3 p) hf X hX)).mono fun _ _ ⟨a1, D', a2, a3, a4⟩ => ⟨a1, D', n + 1, Nat.le_refl _, .inr (.inl ⟨rfl, a2⟩), a3, a4⟩
  · exact (do_goes_gen hm h1 h2 p to hp f (fun X hX => ptr_eql (h3 p) hf X hX)).mono fun _ _ ⟨a1, D', a2, a3, a4⟩ => ⟨a1, D', n, by omega, .inr (.inr ⟨rfl, a2⟩), a3, a4⟩
end Go.Proofs.YtknmmlfdlfioiaaGreatDoor.Vc
namespace Go.Proofs.YtknmmlfdlfioiaaGreatDoor.Vc
open Go.RowKit Go.Shelf Go.Maps
variable {B0 : Nat} {A : Nat → Prop} {pl : Value}
/-- Those of a folder. -/
def ins (q : ByteArray) (l : List Ac) : List Ac := l.filter fun a => inA q a
theorem ins_take (q : ByteArray) {l : List Ac} {j : Nat} {a : Ac} (ha : l[j]? = some a) : ins q (l.take (j + 1)) = ins q (l.take j) ++ (if inA q a then [a] else []) := by
  obtain ⟨hj, e⟩ := List.getElem?_eq_some_iff.1 ha
  rw [List.take_succ_eq_append_getElem hj, ins, List.filter_append, e]
  cases h : inA q a <;> simp [ins, h]
section
variable {w : World} {fb : Nat} {nv sv uv done : Value} {came : Nat} {used : Int} {room steps N k : Nat} {D1 D2 D3 : DataW Value} {l : List Ac}
theorem Sg.sured {w w' : World} {b1 b2 b3 n1 n2 n3 n : Nat} {xs : List Value} {D : DataW Value} (h : Sg pl A B0 w fb b1 b2 b3 done came used room steps n1 n2 n3 k D1 D2 D3 xs) (hm : NMap w' b2 n D) (hk : Kept [b2] w w') : Sg pl A B0 w' fb b1 b2 b3 done came used room steps n1 n n3 k D1 D D3 xs := by
  have f2 := file_ne_map h.fs h.m2
  have r2 := row_ne_map h.row h.m2
  refine ⟨hk.fs h.fs (by simpa using f2), hk.map h.m1 (by simpa using h.d12), hm, hk.map h.m3 (by simpa using fun e => h.d23 e.symm), hk.row h.row (fun g hg => ?_), h.d12, h.d13, h.d23, Nat.le_trans h.ba hk.size, h.a1, h.a2, h.a3, h.a0, h.a4, fun g hg => h.aw g (Nat.le_trans hk.size hg)⟩
  rw [hg] at r2
  simpa using fun e => r2 (by simp [e])
theorem Sg.rowed {w w' : World} {b1 b2 b3 n1 n2 n3 k' : Nat} {xs ys : List Value} {done' : Value} (h : Sg pl A B0 w fb b1 b2 b3 done came used room steps n1 n2 n3 k D1 D2 D3 xs) (hr : w'.ownsRow B0 69 4 done' k' ys) (hk : Kept done.ownBlock.toList w w') (hd : done'.ownBlock = done.ownBlock) :
    FsAt w' fb (.map (some b1)) (.map (some b2)) done (.map (some b3)) came used room steps false pl ∧ Sg pl A B0 (w'.setCell ⟨fb, 2, none⟩ done') fb b1 b2 b3 done' came used room steps n1 n2 n3 k' D1 D2 D3 ys := by
  have q0 := row_ne_cells h.row h.fs (by decide)
  have q1 := row_ne_map h.row h.m1
  have q2 := row_ne_map h.row h.m2
  have q3 := row_ne_map h.row h.m3
  have hf5 := hk.fs h.fs q0
  have m51 := hk.map h.m1 q1
  have m52 := hk.map h.m2 q2
  have m53 := hk.map h.m3 q3
  refine ⟨hf5, ?_, (Kept.set fb 2 _).map m51 ?_, (Kept.set fb 2 _).map m52 ?_, (Kept.set fb 2 _).map m53 ?_, (Kept.set fb 2 _).row hr ?_, h.d12, h.d13, h.d23, ?_, h.a1, h.a2, h.a3, h.a0, fun g hg => h.a4 g (by rw [← hd]; exact hg), fun g hg => h.aw g (by have := hk.size; simp [World.setCell] at hg; omega)⟩
  · unfold FsAt
    rw [heap_setCell_same w' fb 2 _ 54 _ hf5]
    rfl
  · simpa using fun e => file_ne_map hf5 m51 e.symm
  · simpa using fun e => file_ne_map hf5 m52 e.symm
  · simpa using fun e => file_ne_map hf5 m53 e.symm
  · intro g' hg'
    have := row_ne hr hf5 (fun cur => by simp) g' hg'
    simpa using this
  · have := h.ba
    have := hk.size
    simp [World.setCell]
    omega
/-- What SyncDir leaves. -/
def SyncDirTo (pl : Value) (A : Nat → Prop) (B0 : Nat) (w : World) (fb : Nat) (came : Nat) (used : Int) (room steps N k : Nat) (D1 D2 D3 : DataW Value) (l : List Ac) (q : ByteArray) (e : Ending) (w' : World) : Prop :=
  e = .returned (.int .i64 0) ∧ ∃ b1 b2 b3 n1 n2 n3 done' D2', n1 ≤ N ∧ n2 ≤ N + k ∧ n3 ≤ N ∧ Dos D2 (ins q l) D2' ∧ Sg pl A B0 w' fb b1 b2 b3 done' came used room (steps + 1) n1 n2 n3 (outs q l).length D1 D2' D3 (acsV (outs q l)) ∧ ∀ xo, Frm A fb xo w w'
/-- Its memory while acts are done to the sure names. -/
structure YMem (pl : Value) (A : Nat → Prop) (B0 : Nat) (E : Lit → Value → Prop) (w : World) (fb b1 b2 b3 : Nat) (done : Value) (came : Nat) (used : Int) (room steps n1 n2 n3 k : Nat) (D1 D2 D3 : DataW Value) (l : List Ac) (q : ByteArray) (pb j : Nat) (wr : World) : Prop where
  st : ∃ D n, n ≤ n2 + j ∧ Dos D2 (ins q (l.take j)) D ∧ NamesOK A wr fb E D ∧ Sg pl A B0 wr fb b1 b2 b3 done came used room steps n1 n n3 k D1 D D3 (acsV l)
  pc : wr.heap[pb]? = some (.cells #[.string q] 9 (0, 0))
  frm : ∀ xo, Frm A fb xo w wr
theorem row_slice {w : World} {k : Nat} {v : Value} {xs : List Value} (h : w.ownsRow B0 69 4 v k xs) : ∃ a c, v = .slice a k c := by
  rcases h.2 with ⟨e, e2⟩ | ⟨g, cap, cur, e, _⟩
  · subst e2; exact ⟨_, _, e⟩
  · exact ⟨_, _, e⟩
theorem row_some {w : World} {k c : Nat} {a : Option Addr} {xs : List Value} (h : w.ownsRow B0 69 4 (.slice a k c) k xs) (hk : 0 < k) : ∃ g, a = some ⟨g, 0, none⟩ := by
  rcases h.2 with ⟨_, e2⟩ | ⟨g, cap, cur, e, _⟩
  · omega
  · simp only [Value.slice.injEq, true_and] at e
    exact ⟨g, e.1⟩
theorem YMem.under {E : Lit → Value → Prop} {b1 b2 b3 n1 n2 n3 pb j : Nat} {q : ByteArray} {wr w' : World} (h : YMem pl A B0 E w fb b1 b2 b3 done came used room steps n1 n2 n3 k D1 D2 D3 l q pb j wr) (hk : Kept [] wr w') : YMem pl A B0 E w fb b1 b2 b3 done came used room steps n1 n2 n3 k D1 D2 D3 l q pb j w' := by
  obtain ⟨D, n, h1, h2, h3, h4⟩ := h.st
  exact ⟨⟨D, n, h1, h2, h3.frm (xo := NoX) (Frm.kept0 (A := A) hk), h4.keep0 hk⟩, hk.fs h.pc (by simp), fun xo => (h.frm xo).trans (Frm.kept0 hk)⟩
theorem YMem.skip {E : Lit → Value → Prop} {b1 b2 b3 n1 n2 n3 pb j : Nat} {q : ByteArray} {wr : World} (h : YMem pl A B0 E w fb b1 b2 b3 done came used room steps n1 n2 n3 k D1 D2 D3 l q pb j wr) {a : Ac} (ha : l[j]? = some a) (hin : inA q a = false) : YMem pl A B0 E w fb b1 b2 b3 done came used room steps n1 n2 n3 k D1 D2 D3 l q pb (j + 1) wr := by
  obtain ⟨D, n, h1, h2, h3, h4⟩ := h.st
  have e := ins_take q ha
  rw [hin, if_neg (by simp), List.append_nil] at e
  exact ⟨⟨D, n, by omega, by rw [e]; exact h2, h3, h4⟩, h.pc, h.frm⟩
set_option maxHeartbeats 3200000 in
set_option maxRecDepth 100000 in
theorem syncDir_gen {E : Lit → Value → Prop} (hV : View pl A B0 w fb nv sv uv done came used room steps N k D1 D2 D3 (acsV l)) (hlk : l.length = k) (hk : k < 900000) (hN : N < 900000) (hs : steps < 900000) (hE2 : NamesOK A w fb E D2) (hl : ∀ a ∈ l, AcOK a ∧ PtrOK A w fb a.f ∧ ∀ w', Frm A fb NoX w w' → ActV (fun kl v => VW A w' fb kl v ∧ E kl v) a)
    (q : ByteArray) (hno : ∀ X, Kept [] w X → Calls Tryz.prog 69 #[.pointer (some ⟨fb, 0, none⟩), .string q] X fun e w' => e = .returned (.int .i64 0) ∧ Kept [] X w') :
    Calls Tryz.prog 43 #[.pointer (some ⟨fb, 0, none⟩), .string q] w fun e w' => SyncDirTo pl A B0 w fb came used room steps N k D1 D2 D3 l q e w' := by
  obtain ⟨W, hW⟩ : ∃ W, w.alloc (.cells #[.string q] 9) = W := ⟨_, rfl⟩
  have hkW : Kept [] w W := by rw [← hW]; exact Kept.alloc _ _
  have hrow : W.heap[w.heap.size]? = some (.cells #[.string q] 9 (0, 0)) := by rw [← hW]; exact alloc_at rfl
  have pc : W.cell? ⟨w.heap.size, 0, none⟩ = some (.string q) := cellAt hrow rfl
  have HN := hideIt (hno W hkW)
  have hfb : fb < w.heap.size := block_lt hV.fs
  have HT : Hid (∀ X, Kept [] W X → Calls Tryz.prog 64 #[.pointer (some ⟨fb, 0, none⟩)] X fun e w2 => e = .returned (.int .i64 0) ∧ ∃ b1 b2 b3 n1 n2 n3, n1 ≤ N ∧ n2 ≤ N ∧ n3 ≤ N ∧ YMem pl A B0 E w fb b1 b2 b3 done came used room (steps + 1) n1 n2 n3 k D1 D2 D3 l q w.heap.size 0 w2) := by
    refine hideIt (fun X hX => ?_)
    have hX' : Kept [] w X := (hkW.trans hX).sub (by simp)
    refine (hV.step X hX' hs).mono fun e w2 ⟨a1, b1, b2, b3, n1, n2, n3, q1, q2, q3, _, _, _, hS, hk2⟩ => ?_
    have hfr : ∀ xo, Frm A fb xo w w2 := fun xo => (Frm.kept0 hX').trans (Frm.fs1 hk2 (hX'.fs hV.fs (by simp)) hV.a0)
    exact ⟨a1, b1, b2, b3, n1, n2, n3, q1, q2, q3, ⟨D2, n2, by omega, rfl, hE2.frm (hfr NoX), hS⟩, hk2.fs (hX.fs hrow (by simp)) (by simp; omega), hfr⟩
  have HL := hideIt hl
  have HK := hideIt hlk
  clear hV hrow hkW hno hE2 hl hlk
  go_enter Tryz.func43, Tryz.ntmps43
  go_wp2_with (first | (go_at_call 69; refine HN.out.mono ?_; rintro e w0 ⟨rfl, hk0⟩; have HK0 := hideIt hk0; clear hk0) | (go_at_call 64; refine (HT.out _ HK0.out).mono ?_; rintro e w1 ⟨rfl, b1, b2, b3, n1, n2, n3, q1, q2, q3, hY⟩; obtain ⟨D0, m0, hm0, hd0, hn0, hS0⟩ := hY.st; obtain ⟨da, dc, rfl⟩ := row_slice hS0.row; have e2 := fs2 hS0.fs; have HY := hideIt hY; clear hY hS0 hn0 hd0 hm0))
  clear HT HN HK0
  have kI : (k : Int) < 900000 := by omega
  go_loopw [25] (fun t wr => ∃ j : Nat, j ≤ k ∧ t = .int .i64 j ∧ YMem pl A B0 E w fb b1 b2 b3 (.slice da k dc) came used room (steps + 1) n1 n2 n3 k D1 D2 D3 l q w.heap.size j wr) (fun t _ => k - (intOf t).toNat)
  case atStart => exact ⟨0, by omega, rfl, HY.out⟩
  case round =>
    obtain ⟨j, hj, rfl, hy⟩ := hrel
    clear HY
    by_cases hlt : j < k
    · have hid : decide ((j : Int) < (k : Int)) = true := decide_eq_true (by omega)
      have j1 : (j : Int) < (k : Int) := by omega
      obtain ⟨a, ha⟩ : ∃ a, l[j]? = some a := ⟨l[j]'(by rw [HK.out]; exact hlt), by simp⟩
      obtain ⟨D, n, hn, hD, hNO, hS⟩ := hy.st
      obtain ⟨g, rfl⟩ := row_some hS.row (by omega)
      have f4 := four_row hS.row ha
      have c0 := f4.c0
      have c1 := f4.c1
      have c2 := f4.c2
      have c3 := f4.c3
      obtain ⟨W1, hW1⟩ : ∃ W, wr.alloc (.cells #[.int .i64 a.kind, .string a.p, .string a.to, .pointer a.f] 69) = W := ⟨_, rfl⟩
      have hkA : Kept [] wr W1 := by rw [← hW1]; exact Kept.alloc _ _
      have hrw : W1.heap[wr.heap.size]? = some (.cells #[.int .i64 a.kind, .string a.p, .string a.to, .pointer a.f] 69 (0, 0)) := by rw [← hW1]; exact alloc_at rfl
      have hal := HL.out a (List.mem_of_getElem? ha)
      have d0 : W1.cell? ⟨wr.heap.size, 0, none⟩ = some (.int .i64 a.kind) := cellAt hrw rfl
      have d1 : W1.cell? ⟨wr.heap.size, 1, none⟩ = some (.string a.p) := cellAt hrw rfl
      have d2 : W1.cell? ⟨wr.heap.size, 2, none⟩ = some (.string a.to) := cellAt hrw rfl
      have d3 : W1.cell? ⟨wr.heap.size, 3, none⟩ = some (.pointer a.f) := cellAt hrw rfl
      have d4 : W1.cell? ⟨w.heap.size, 0, none⟩ = some (.string q) := cellAt (hkA.fs hy.pc (by simp)) rfl
      have HIN := hideIt (in_gen a.kind hal.1.1 a.p a.to q hal.1.2.1 hal.1.2.2 a.f W1)
      obtain ⟨z, hz⟩ : ∃ z, inB a.kind a.p a.to q = z := ⟨_, rfl⟩
      rw [hz] at HIN
      have HZ : Hid (inA q a = z) := hideIt hz
      have HA := hideIt ha
      have HYA := hideIt (hy.under hkA)
      have HRW := hideIt hrw
      have HAL := hideIt hal
      clear hy hS hNO hD f4 hkA hrw hal hz ha hn
      cases z with
      | false =>
        go_wp2_with (first | (go_at_call 70; refine HIN.out.mono ?_; rintro e w3 ⟨rfl, hk3⟩))
        go_roundw
        case rel => exact ⟨j + 1, by omega, by go_num, (HYA.out.under hk3).skip HA.out HZ.out⟩
        case measure => simp [intOf]; omega
      | true =>
        go_wp2_with (first | (go_at_call 70; refine HIN.out.mono ?_; rintro e w3 ⟨rfl, hk3⟩))
        have hY3 := HYA.out.under hk3
        have hrow3 := hk3.fs HRW.out (by simp)
        obtain ⟨D, n, hn, hD, hNO, hS3⟩ := hY3.st
        have e1 := fs1 hS3.fs
        have a0 : w3.cell? ⟨wr.heap.size, 0, none⟩ = some (.int .i64 a.kind) := cellAt hrow3 rfl
        have a1 : w3.cell? ⟨wr.heap.size, 1, none⟩ = some (.string a.p) := cellAt hrow3 rfl
        have a2 : w3.cell? ⟨wr.heap.size, 2, none⟩ = some (.string a.to) := cellAt hrow3 rfl
        have a3 : w3.cell? ⟨wr.heap.size, 3, none⟩ = some (.pointer a.f) := cellAt hrow3 rfl
        have HD : Hid (∀ X, Same w3 X → Calls Tryz.prog 25 #[.map (some b2), .agg #[.int .i64 a.kind, .string a.p, .string a.to, .pointer a.f]] X fun e w' => e = .returned (.tuple #[]) ∧ YMem pl A B0 E w fb b1 b2 b3 (.slice (some ⟨g, 0, none⟩) k dc) came used room (steps + 1) n1 n2 n3 k D1 D2 D3 l q w.heap.size (j + 1) w' ∧ w'.cell? ⟨fb, 1, none⟩ = some (.map (some b2)) ∧ w'.heap[wr.heap.size]? = some (.cells #[.int .i64 a.kind, .string a.p, .string a.to, .pointer a.f] 69 (0, 0))) := hideIt (fun X hX => by
          have hSX := hS3.keep0 hX.kept
          have hNX := hNO.frm (xo := NoX) (Frm.kept0 (A := A) hX.kept)
          have hPf := HAL.out.2.1.frm ((hY3.frm NoX).trans (Frm.kept0 hX.kept))
          refine (do_gen hSX.m2 (by omega) hNX a HAL.out.1 hPf).mono fun _ w' ⟨h1, D', n', h2, h3, h4, h5⟩ => ?_
          have hfr : ∀ xo, Frm A fb xo X w' := fun xo => Frm.of_kept h5 (fun b hb => hSX.inner b (by simp at hb; simp [hb]))
          have hS' := hSX.sured h4 h5
          have hwf := ((hY3.frm NoX).trans (Frm.kept0 hX.kept)).trans (hfr NoX)
          have ei := ins_take q HA.out
          rw [HZ.out, if_pos rfl] at ei
          refine ⟨h1, ⟨⟨D', n', by omega, by rw [ei]; exact Dos.snoc hD h3, (hNX.frm (hfr NoX)).does (HAL.out.2.2 w' hwf) h3, hS'⟩, ?_, fun xo => ((hY3.frm xo).trans (Frm.kept0 hX.kept)).trans (hfr xo)⟩, fs1 hS'.fs, ?_⟩
          · exact (hfr NoX).foreign _ _ _ _ (hX.kept.fs hY3.pc (by simp)) (by decide) (by decide) (by decide)
          · refine h5.fs (hX.kept.fs hrow3 (by simp)) ?_
            have := hSX.m2.lt
            have h6 := file_ne_map (hX.kept.fs hrow3 (by simp)) hSX.m2
            simpa using h6)
        clear hY3 hS3 hNO hD hrow3 hk3
        go_region_held3 (fun X => X.cell? ⟨fb, 1, none⟩ = some (.map (some b2)) ∧ X.cell? ⟨wr.heap.size, 0, none⟩ = some (.int .i64 a.kind) ∧ X.cell? ⟨wr.heap.size, 1, none⟩ = some (.string a.p) ∧ X.cell? ⟨wr.heap.size, 2, none⟩ = some (.string a.to) ∧ X.cell? ⟨wr.heap.size, 3, none⟩ = some (.pointer a.f)) (first | exact ⟨e1, a0, a1, a2, a3⟩ | exact ⟨hc4, cellAt hr4 rfl, cellAt hr4 rfl, cellAt hr4 rfl, cellAt hr4 rfl⟩ | assumption) (first | (go_at_call 25; refine (HD.out _ (by exact ⟨rfl, rfl, rfl, rfl⟩)).mono ?_; rintro e w4 ⟨rfl, hy4, hc4, hr4⟩))
        go_wp2
        go_roundw
        case rel => exact ⟨j + 1, by omega, by go_num, hy4⟩
        case measure => simp [intOf]; omega
    · have hid : decide ((j : Int) < (k : Int)) = false := decide_eq_false (by omega)
      obtain rfl : j = k := by omega
      obtain ⟨D, n, hn, hD, hNO, hS⟩ := hy.st
      have e4 := fs2 hS.fs
      have HX := hideIt (delete_gen l (fun a ha => (HL.out a ha).1) q wr w.heap.size j _ HK.out (by omega) hy.pc hS.row)
      have HS := hideIt hS
      have HFY := hideIt hy.frm
      have HDD := hideIt hD
      rw [show l.take j = l from List.take_of_length_le (by rw [HK.out]; exact Nat.le_refl _)] at HDD
      clear hy hS hNO hD
      go_wp2_with (first | (go_at_call 71; refine HX.out.mono ?_; rintro e w5 ⟨done', rfl, hd5, hr5, hk5⟩; obtain ⟨va, vc, rfl⟩ := row_slice hr5; obtain ⟨hf5, hS5⟩ := HS.out.rowed hr5 hk5 hd5; have s2 := fs2 hf5; have s3 := thawAt hf5 2; have HS5 := hideIt hS5; have HF5 := hideIt (fun xo => ((HFY.out xo).trans (Frm.of_kept (xo := xo) hk5 (fun b hb => HS.out.inner b (by simp [hb])))).trans (Frm.fs1 (Kept.set fb 2 (.slice va (outs q l).length vc)) hf5 HS.out.a0)); clear hS5 hf5 hk5 hr5))
      go_ret
      exact ⟨rfl, b1, b2, b3, n1, n, n3, _, D, q1, by omega, q3, HDD.out, HS5.out, HF5.out⟩
end
end Go.Proofs.YtknmmlfdlfioiaaGreatDoor.Vc
namespace Go.Proofs.YtknmmlfdlfioiaaGreatDoor.Vc
open Go.RowKit Go.Shelf Go.Maps
variable {B0 : Nat} {A : Nat → Prop} {pl : Value}
section
variable {w : World} {fb : Nat} {nv sv uv done : Value} {came : Nat} {used : Int} {room steps N k : Nat} {D1 D2 D3 : DataW Value} {xs : List Value}
/-- Why there is no folder. -/
def nfE (D : DataW Value) (q : ByteArray) : Int := if q.data.toList = [] then 0 else if pathL q.data.toList then (if folderB D q (pv D q) then 0 else 2) else 30
theorem nfE_cases (D : DataW Value) (q : ByteArray) : nfE D q = 0 ∨ nfE D q = 2 ∨ nfE D q = 30 := by
  unfold nfE
  repeat' split
  all_goals simp
set_option maxHeartbeats 1600000 in
set_option maxRecDepth 100000 in
theorem noFolder_view (hV : View pl A B0 w fb nv sv uv done came used room steps N k D1 D2 D3 xs) (hx : MaxAt w) (p : ByteArray) (hp : p.size ≤ 140737488355328) :
    Calls Tryz.prog 69 #[.pointer (some ⟨fb, 0, none⟩), .string p] w fun e w' => e = .returned (.int .i64 (nfE D1 p)) ∧ Kept [] w w' := by
  by_cases h0 : p.data.toList = []
  · obtain rfl : p = ⟨#[]⟩ := by rw [← bs_data p, h0]; rfl
    have he : nfE D1 ⟨#[]⟩ = 0 := by rw [nfE, if_pos rfl]
    rw [he]
    have HH := hideIt (hindered_none hV.fs)
    have HF := hideIt (hV.fold w (Kept.refl _ _) ⟨#[]⟩ (by decide))
    have ht : folderB D1 ⟨#[]⟩ (pv D1 ⟨#[]⟩) = true := rfl
    rw [ht] at HF
    have c0 := fs0 hV.fs
    clear hV he ht
    go_enter Tryz.func69, Tryz.ntmps69
    go_wp2_with (first | (go_at_call 54; refine HH.out.mono ?_; rintro e w1 ⟨rfl, hw1⟩; obtain rfl := hw1.symm) | (go_at_call 46; refine HF.out.mono ?_; rintro e w1 ⟨rfl, hw1⟩; obtain rfl := hw1.symm))
    go_ret
    exact ⟨rfl, Kept.refl _ _⟩
  · have e1 : (p.toList == []) = false := by rw [ByteArray.toList_eq]; simpa using h0
    have e2 : p.toList.isEmpty = false := by rw [ByteArray.toList_eq]; simpa using h0
    have e3 : (p.toList != []) = true := by rw [ByteArray.toList_eq]; simpa using h0
    obtain ⟨i0, hi0, hz0, hz1, hz2⟩ := info_parts infoStr
    have own : w.ownsRow 0 9 1 (.slice none 0 0) 0 [] := ⟨rfl, .inl ⟨rfl, rfl⟩⟩
    have HH : Hid (∀ X sb c, Kept [] w X → X.cell? ⟨sb, 0, none⟩ = some (.string p) → Calls Tryz.prog 54 #[.pointer (some ⟨fb, 0, none⟩), .slice (some ⟨sb, 0, none⟩) 1 c] X fun e w' => e = .returned (.int .i64 (errPath p)) ∧ Kept [] w w') := hideIt (fun X sb c hX hc =>
      (hindered_cell (hX.fs hV.fs (by simp)) (hX.max hx (by simp)) p hp sb c hc).mono fun _ _ k => ⟨k.1, (hX.trans k.2).sub (by simp)⟩)
    have HC : Hid (∀ X, Kept [] w X → X.cell? ⟨fb, 0, none⟩ = some nv) := hideIt (fun X hX => fs0 (hX.fs hV.fs (by simp)))
    cases hpath : pathL p.data.toList with
    | false =>
      have he : errPath p = 30 := by rw [errPath, if_neg (by rw [hpath]; simp)]
      have hne : nfE D1 p = 30 := by rw [nfE, if_neg h0, if_neg (by rw [hpath]; simp)]
      rw [he] at HH
      rw [hne]
      clear hV hx h0 hpath he hne
      go_enter Tryz.func69, Tryz.ntmps69
      go_wp2_with (first | (at_builtin; refine wpList_append_own _ rfl _ _ 123 rfl 0 9 i0 _ 1 16 Tryz.underlying123 hi0 hz0 hz1 hz2 rfl (by decide) _ _ _ rfl (own.alloc _) ⟨w.heap.size, 0, none⟩ 1 1 [.string p] rfl rfl (one_str p) (by intro u hu; simp at hu; subst hu; rfl) (by unfold maxLen; omega) (by omega) (Nat.zero_le _) ?_; intro v' w2 hown2 hg2 _; have hk2 : Kept [] w w2 := ((Kept.alloc _ _).trans (Kept.of_grown (r := none) hg2)).sub (by simp); obtain ⟨g, cap, rfl, g0⟩ := own_one hown2) | (go_at_call 54; refine (HH.out _ _ _ hk2 g0).mono ?_; rintro e w3 ⟨rfl, hk3⟩; have d0 := HC.out w3 hk3))
      go_ret
      exact ⟨rfl, hk3⟩
    | true =>
      have he : errPath p = 0 := by rw [errPath, if_pos hpath]
      rw [he] at HH
      have hps := path_size p hpath
      have HF := hideIt (fun X hX => hV.fold X hX p (by omega))
      obtain ⟨y, hy⟩ : ∃ y, folderB D1 p (pv D1 p) = y := ⟨_, rfl⟩
      rw [hy] at HF
      have HE : Hid (nfE D1 p = if y then 0 else 2) := hideIt (by rw [nfE, if_neg h0, if_pos hpath, hy])
      clear hV hx h0 hpath he hy
      cases y
      all_goals go_enter Tryz.func69, Tryz.ntmps69
      all_goals go_wp2_with (first | (at_builtin; refine wpList_append_own _ rfl _ _ 123 rfl 0 9 i0 _ 1 16 Tryz.underlying123 hi0 hz0 hz1 hz2 rfl (by decide) _ _ _ rfl (own.alloc _) ⟨w.heap.size, 0, none⟩ 1 1 [.string p] rfl rfl (one_str p) (by intro u hu; simp at hu; subst hu; rfl) (by unfold maxLen; omega) (by omega) (Nat.zero_le _) ?_; intro v' w2 hown2 hg2 _; have hk2 : Kept [] w w2 := ((Kept.alloc _ _).trans (Kept.of_grown (r := none) hg2)).sub (by simp); obtain ⟨g, cap, rfl, g0⟩ := own_one hown2) | (go_at_call 54; refine (HH.out _ _ _ hk2 g0).mono ?_; rintro e w3 ⟨rfl, hk3⟩; have d0 := HC.out w3 hk3) | (go_at_call 46; refine (HF.out _ hk3).mono ?_; rintro e w4 ⟨rfl, hw4⟩; obtain rfl := hw4.symm))
      all_goals go_ret
      all_goals exact ⟨by rw [HE.out]; rfl, hk3⟩
set_option maxHeartbeats 400000 in
set_option maxRecDepth 100000 in
theorem syncDir_no (w : World) (fb : Nat) (q : ByteArray) (E : Int) (hE : E = 2 ∨ E = 30) (hno : ∀ X, Kept [] w X → Calls Tryz.prog 69 #[.pointer (some ⟨fb, 0, none⟩), .string q] X fun e w' => e = .returned (.int .i64 E) ∧ Kept [] X w') :
    Calls Tryz.prog 43 #[.pointer (some ⟨fb, 0, none⟩), .string q] w fun e w' => Refd E w e w' := by
  obtain ⟨W, hW⟩ : ∃ W, w.alloc (.cells #[.string q] 9) = W := ⟨_, rfl⟩
  have hkW : Kept [] w W := by rw [← hW]; exact Kept.alloc _ _
  have hrow : W.heap[w.heap.size]? = some (.cells #[.string q] 9 (0, 0)) := by rw [← hW]; exact alloc_at rfl
  have pc : W.cell? ⟨w.heap.size, 0, none⟩ = some (.string q) := cellAt hrow rfl
  have HN := hideIt (hno W hkW)
  have HK := hideIt hkW
  clear hrow hkW hno
  rcases hE with rfl | rfl
  · go_enter Tryz.func43, Tryz.ntmps43
    go_wp2_with (first | (go_at_call 69; refine HN.out.mono ?_; rintro e w0 ⟨rfl, hk0⟩))
    go_ret
    exact ⟨rfl, (HK.out.trans hk0).sub (by simp)⟩
  · go_enter Tryz.func43, Tryz.ntmps43
    go_wp2_with (first | (go_at_call 69; refine HN.out.mono ?_; rintro e w0 ⟨rfl, hk0⟩))
    go_ret
    exact ⟨rfl, (HK.out.trans hk0).sub (by simp)⟩
end
end Go.Proofs.YtknmmlfdlfioiaaGreatDoor.Vc
namespace Go.Proofs.YtknmmlfdlfioiaaGreatDoor.Vc
open Go.RowKit Go.Shelf Go.Maps
variable {B0 : Nat} {A : Nat → Prop} {pl : Value}
theorem pv_nil (q : ByteArray) : pv (.map []) q = none := rfl
theorem has_nil (kl : Lit) : Maps.has (DataW.map ([] : List (Lit × DataW Value))) kl = false := rfl
set_option maxHeartbeats 400000 in
set_option maxRecDepth 100000 in
theorem folder_nil (q : ByteArray) (hq : q.size ≤ 1000) (w : World) : Calls Tryz.prog 46 #[.map none, .string q] w fun e w' => e = .returned (.bool (folderB (.map []) q (pv (.map []) q))) ∧ w' = w := by
  have hl := look_nil_ok w q (by unfold maxLen; omega)
  have e2 : q.toList.isEmpty = q.data.toList.isEmpty := by rw [ByteArray.toList_eq]
  have e1 : (q.toList == []) = q.data.toList.isEmpty := by rw [ByteArray.toList_eq]; cases q.data.toList <;> rfl
  have HE : Hid (folderB (.map []) q (pv (.map []) q) = q.data.toList.isEmpty) := hideIt (by rw [folderB, has_nil]; simp)
  obtain ⟨z, hz⟩ : ∃ z, q.data.toList.isEmpty = z := ⟨_, rfl⟩
  rw [hz] at e1 e2 HE
  clear hz
  cases z
  all_goals go_enter Tryz.func46, Tryz.ntmps46
  all_goals go_wp2
  all_goals go_ret
  all_goals exact ⟨by rw [HE.out]; rfl, rfl⟩
set_option maxHeartbeats 400000 in
set_option maxRecDepth 100000 in
theorem bare_nil (q : ByteArray) (hq : q.size ≤ 1000) (w : World) : Calls Tryz.prog 48 #[.map none, .string q] w fun e w' => ∃ y, e = .returned (.bool y) ∧ (y = true ↔ (folderB (.map []) q (pv (.map []) q) = false ∨ NoKids (.map []) q)) ∧ Kept [] w w' := by
  have HF := hideIt (folder_nil q hq w)
  have HK : Hid (NoKids (.map []) q) := hideIt (fun l h => by cases h)
  obtain ⟨z, hz⟩ : ∃ z, folderB (.map []) q (pv (.map []) q) = z := ⟨_, rfl⟩
  rw [hz] at HF ⊢
  clear hz
  cases z with
  | false =>
    go_enter Tryz.func48, Tryz.ntmps48
    go_wp2_with (first | (go_at_call 46; refine HF.out.mono ?_; rintro e w1 ⟨rfl, hw1⟩; obtain rfl := hw1.symm))
    go_ret
    exact ⟨true, rfl, by simp, Kept.refl _ _⟩
  | true =>
    have hrn := run_range_nilMap (P := Tryz.prog) w 50 _ _ Tryz.underlying50
    have hnn := fun ty => run_next_nilMap (P := Tryz.prog) w ty 0 0 #[]
    go_enter Tryz.func48, Tryz.ntmps48
    go_wp2_with (first | (go_at_call 46; refine HF.out.mono ?_; rintro e w1 ⟨rfl, hw1⟩; obtain rfl := hw1.symm))
    refine wp_loop_rounds 1 ?_
    rw [rounds_succ]
    go_wp2
    go_ret
    exact ⟨true, rfl, by simp [HK.out], Kept.alloc _ _⟩
set_option maxHeartbeats 400000 in
set_option maxRecDepth 100000 in
theorem file_nil {w : World} {fb : Nat} {sv dv uv : Value} {came used room steps : Int} {dead : Bool} (h : FsAt w fb (.map none) sv dv uv came used room steps dead pl) (q : ByteArray) (hq : q.size ≤ 1000) :
    Calls Tryz.prog 55 #[.pointer (some ⟨fb, 0, none⟩), .string q] w fun e w' => e = .returned (fileR (Maps.has (DataW.map ([] : List (Lit × DataW Value))) (key q)) (pv (.map []) q)) ∧ w' = w := by
  have hl := look_nil_ok w q (by unfold maxLen; omega)
  have c0 := fs0 h
  rw [has_nil, pv_nil]
  clear h
  go_enter Tryz.func55, Tryz.ntmps55
  go_wp2
  go_ret2
  exact ⟨rfl, rfl⟩
/-- Ahead of the first step: no names. -/
theorem view_nil {w : World} {fb : Nat} {came : Nat} {used : Int} {room steps N : Nat} (h : FsAt w fb (.map none) (.map none) (.slice none 0 0) (.map none) came used room steps false (.slice none 0 0)) (hB : B0 ≤ w.heap.size) (hA : ∀ b, w.heap.size ≤ b → A b) (hA0 : A fb) :
    View (.slice none 0 0) A B0 w fb (.map none) (.map none) (.map none) (.slice none 0 0) came used room steps N 0 (.map []) (.map []) (.map []) [] where
  fs := h
  a0 := hA0
  ptrs := fun _ => rfl
  keys := fun l hl => by cases hl
  fold := fun X _ q hq => folder_nil q hq X
  look := fun X _ q hq => ⟨look_nil_ok X q (by unfold maxLen; omega), look_nil_at X q (by unfold maxLen; omega)⟩
  bare := fun X _ q hq => bare_nil q hq X
  file := fun X hX q hq => file_nil (hX.fs h (by simp)) q hq
  step := fun X hX hs => by
    refine (step_new steps (by omega) (hX.fs h (by simp))).mono fun e w' ⟨a1, a2, a3, a4, a5, a6⟩ => ?_
    exact ⟨a1, X.heap.size, X.heap.size + 1, X.heap.size + 2, 0, 0, 0, Nat.zero_le _, Nat.zero_le _, Nat.zero_le _, .inr (Nat.le_refl _), .inr (by omega), .inr (by omega), ⟨a2, a3, a4, a5, ⟨rfl, .inl ⟨rfl, rfl⟩⟩, by omega, by omega, by omega, Nat.le_trans hB (Nat.le_trans hX.size a6.size), hA _ hX.size, hA _ (Nat.le_trans hX.size (by omega)), hA _ (Nat.le_trans hX.size (by omega)), hA0, (fun g hg => by cases hg), fun g hg => hA g (Nat.le_trans (Nat.le_trans hX.size a6.size) hg)⟩, a6⟩
end Go.Proofs.YtknmmlfdlfioiaaGreatDoor.Vc
namespace Go.Proofs.YtknmmlfdlfioiaaGreatDoor.Vc
open Go.RowKit Go.Shelf Go.Maps Go.Sort Go.ChangeMaps Go.MapKept
variable {B0 : Nat} {A : Nat → Prop} {pl : Value}
/-- The unsure ones are files that are well, and none is the one that is told. -/
def UOK (A : Nat → Prop) (w : World) (fb : Nat) (xo : Nat → Prop) (D : DataW Value) : Prop := ∀ x : Int, Maps.has D (.int .i64 x) = true → ∃ xb, (∀ zd, D.atKey (.int .i64 x) zd = .held (.pointer (some ⟨xb, 0, none⟩))) ∧ FileOK A w fb xb ∧ ¬ xo xb
theorem UOK.frm {w w' : World} {fb : Nat} {xo xo' : Nat → Prop} {D : DataW Value} (h : UOK A w fb xo D) (hf : Frm A fb xo' w w') : UOK A w' fb xo D := fun x hx => by
  obtain ⟨xb, h1, h2, h3⟩ := h x hx
  exact ⟨xb, h1, hf.file xb h2, h3⟩
theorem look_num {w : World} {b n : Nat} {D : DataW Value} (h : UMap w b n D) (x : Int) (hx : (Lit.int .i64 x).wf = true) {v : Value} (hv : ∀ zd, D.atKey (.int .i64 x) zd = .held v) :
    (Instr.lookup 52 (.map (some b)) (.int .i64 x) false).run Tryz.prog w = .ok v w := by
  obtain ⟨v', ps, hrun, hv'⟩ := h.lookup (t := 52) (zd := .held (.pointer none)) (zp := []) kI Tryz.underlying52 (zeroP w) rfl (keyOf_int_mk Tryz.underlying3 hx)
  simp only [anyE, Option.some.injEq, Prod.mk.injEq] at hv'
  rw [hv] at hv'
  rw [hrun, DataW.held.inj hv'.1]
theorem num_has {w : World} {b n : Nat} {D : DataW Value} (h : UMap w b n D) {x : Int} (hx : x ∈ intKeys D) : Maps.has D (.int .i64 x) = true := by
  obtain ⟨es, rfl, hko⟩ := h.keysOf
  obtain ⟨p, hp, rfl⟩ := List.mem_map.1 hx
  obtain ⟨v, hv⟩ := hko p hp
  obtain ⟨y, _, hy, hl⟩ := Maps.keyOf_i64 Tryz.underlying3 hv
  rw [has_eq, List.any_eq_true]
  exact ⟨p, hp, by rw [hy]; simp [Lit.sameKey, Go.intOf]⟩
theorem num_in {w : World} {b n : Nat} {D : DataW Value} (h : UMap w b n D) {x : Int} (hx : Maps.has D (.int .i64 x) = true) : x ∈ intKeys D := by
  obtain ⟨es, rfl, hko⟩ := h.keysOf
  rw [has_eq, List.any_eq_true] at hx
  obtain ⟨p, hp, hs⟩ := hx
  have e := WideAt.sameKey_eq hs
  exact List.mem_map.2 ⟨p, hp, by first | rw [e]; rfl | rw [← e]; rfl⟩
/-- The numbers of the unsure ones, sorted. -/
theorem sorted_any (W : World) (pb b n : Nat) {D : DataW Value} (hn : n < 4000000) (hc : W.cell? ⟨pb, 0, none⟩ = some (.map (some b))) (hlt : pb < W.heap.size) (hm : UMap W b n D) :
    Calls Tryz.prog 26 #[.func (.func 51) #[] #[.pointer (some ⟨pb, 0, none⟩)]] W fun e w' => ∃ (v : Value) (ss : List Int), e = .returned v ∧ ss.length ≤ n ∧ (∀ x ∈ ss, Maps.has D (.int .i64 x) = true ∧ (Lit.int .i64 x).wf = true) ∧ (∀ x : Int, Maps.has D (.int .i64 x) = true → x ∈ ss) ∧ w'.ownsRow W.heap.size 3 1 v ss.length (ss.map encZ) ∧ Kept [] W w' := by
  have hsz := hm.size_le
  have hseq : SeqGives Fence.wide 2 Tryz.prog 51 #[.pointer (some ⟨pb, 0, none⟩)] encZ (fun ss => ss.Perm (intKeys D)) (Maps.size D) W :=
    AnyZI.keys_gives (ρ := Tryz.keysI_ren) { Tryz.keysI with } Fence.wide _ trivial rfl (by omega) pb b n _ _ hlt hc hm
  have cS := AnyZI.sorted_in Tryz.sortedI Fence.wide 5 trivial trivial trivial trivial rfl (by omega) (sorts_in _) (enters_of Tryz.func50 (by kernel_rfl) rfl) 51 #[.pointer (some ⟨pb, 0, none⟩)] trivial (enters_of Tryz.func51 (by kernel_rfl) rfl) _ _ (by unfold maxLen; omega) (by omega) _ hseq
  refine ((callsIn_wide (n := 5)).1 cS).mono fun e w' ⟨v, ss, he, hS, hrow, hnil, hb⟩ => ?_
  have hp := (List.mergeSort_perm ss (fun x y => decide (x ≤ y))).trans hS
  have hlen : (intKeys D).length = Maps.size D := by
    obtain ⟨es, rfl, _⟩ := hm.keysOf
    simp [intKeys, Maps.size]
  refine ⟨v, ss.mergeSort (fun x y => decide (x ≤ y)), he, ?_, fun x hx => ?_, fun x hx => (hp.mem_iff).2 (num_in hm hx), ?_, Kept.of_below hb⟩
  · rw [hp.length_eq, hlen]; exact hsz
  · have := (hp.mem_iff).1 hx
    exact ⟨num_has hm this, intKeys_wf hm Tryz.underlying3 x this⟩
  · rw [List.length_mergeSort]
    exact hrow
set_option maxHeartbeats 800000 in
set_option maxRecDepth 100000 in
theorem torn_max {w : World} {xb num : Nat} {now sure : ByteArray} {links : Int} (hF : FileAt w xb num now sure links) (hn : now.size ≤ 100000000) (hs : sure.size ≤ 100000000) (n : Int) :
    Calls Tryz.prog 28 #[.pointer (some ⟨xb, 0, none⟩), .int .i64 n] w fun e w' => (∃ t : ByteArray, e = .returned (.string t) ∧ t.size ≤ 100000000) ∧ Kept [] w w' := by
  have c1 : w.cell? ⟨xb, 1, none⟩ = some (.string now) := cellAt hF rfl
  have c2 : w.cell? ⟨xb, 2, none⟩ = some (.string sure) := cellAt hF rfl
  clear hF
  go_enter Tryz.func28, Tryz.ntmps28
  go_wp2
  obtain ⟨m, hm, hmn⟩ : ∃ m : Nat, min (max n 0) (now.size : Int) = (m : Int) ∧ m ≤ now.size := ⟨(min (max n 0) (now.size : Int)).toNat, by omega, by omega⟩
  simp only [hm]
  clear hm
  obtain ⟨j, hj, hjn, hmj⟩ : ∃ j : Nat, min (m : Int) (sure.size : Int) = (j : Int) ∧ j ≤ sure.size ∧ m + (sure.size - j) ≤ 100000000 := ⟨min m sure.size, by omega, by omega, by omega⟩
  have b0 : (0 : Int) ≤ (j : Int) := by omega
  have b1 : (j : Int) ≤ (sure.size : Int) := by omega
  have b2 : ¬ 9223372036854775807 < m + (sure.size - j) := by omega
  have b3 : m + (sure.size - j) ≤ 9223372036854775807 := by omega
  have HMJ := hideIt hmj
  clear hmj
  go_region_held3 (fun X => X.cell? ⟨xb, 1, none⟩ = some (.string now) ∧ X.cell? ⟨xb, 2, none⟩ = some (.string sure)) (first | exact ⟨c1, c2⟩ | assumption) (fail)
  go_wp2
  go_ret
  exact ⟨⟨_, rfl, by have := HMJ.out; simp [ByteArray.size_append, ByteArray.size_extract]; omega⟩, (Kept.refl _ _).drew⟩
set_option maxHeartbeats 800000 in
set_option maxRecDepth 100000 in
/-- Whether something is kept: the same at whatever world; of keep 0 nothing is. -/
theorem kept_det (i : Nat) (hi : i < 100000000) (keep : Int) : ∃ y, (keep = 0 → y = false) ∧ ∀ (w : World) (kb : Nat), w.cell? ⟨kb, 0, none⟩ = some (.int .u64 keep) →
    Calls Tryz.prog 24 #[.int .i64 (i : Int), .pointer (some ⟨kb, 0, none⟩)] w fun e w' => e = .returned (.bool y) ∧ w' = w := by
  by_cases hlt : i < 62
  · by_cases h0 : keep = 0
    · subst h0
      refine ⟨false, fun _ => rfl, fun w kb hc => ?_⟩
      go_enter Tryz.func24, Tryz.ntmps24
      go_wp2
      go_ret
      exact ⟨by simp; decide, rfl⟩
    · apply Exists.intro
      refine ⟨fun h => absurd h h0, ?_⟩
      intro w kb hc
      go_enter Tryz.func24, Tryz.ntmps24
      go_wp2
      go_ret
      exact ⟨rfl, rfl⟩
  · refine ⟨false, fun _ => rfl, fun w kb hc => ?_⟩
    go_enter Tryz.func24, Tryz.ntmps24
    go_wp2
    go_ret
    exact ⟨rfl, rfl⟩
/-- A row of numbers. -/
def IntRow (w : World) (v : Value) (ss : List Int) : Prop := ∃ a c, v = .slice a ss.length c ∧ (0 < ss.length → ∃ g cur, a = some ⟨g, 0, none⟩ ∧ w.heap[g]? = some (.cells cur 3 (0, 0)) ∧ ∀ (j : Nat) (x : Int), ss[j]? = some x → w.cell? ⟨g, j, none⟩ = some (.int .i64 x))
theorem cell_eq {w w' : World} {g : Nat} (h : w'.heap[g]? = w.heap[g]?) (j : Nat) : w'.cell? ⟨g, j, none⟩ = w.cell? ⟨g, j, none⟩ := by
  simp only [World.cell?, h]
theorem IntRow.frm {w w' : World} {v : Value} {ss : List Int} {fb : Nat} {xo : Nat → Prop} (h : IntRow w v ss) (hf : Frm A fb xo w w') : IntRow w' v ss := by
  obtain ⟨a, c, h1, h2⟩ := h
  refine ⟨a, c, h1, fun h0 => ?_⟩
  obtain ⟨g, cur, e, hg, hx⟩ := h2 h0
  have hg' := hf.foreign g cur 3 (0, 0) hg (by decide) (by decide) (by decide)
  exact ⟨g, cur, e, hg', fun j x hj => by rw [cell_eq (hg'.trans hg.symm)]; exact hx j x hj⟩
theorem IntRow.of_row {w : World} {B : Nat} {v : Value} {ss : List Int} (h : w.ownsRow B 3 1 v ss.length (ss.map encZ)) : IntRow w v ss := by
  rcases h.2 with ⟨e, h0⟩ | ⟨g, cap, cur, e, h1, hg, r⟩
  · exact ⟨none, 0, by rw [e, h0], fun hp => by omega⟩
  · subst e
    refine ⟨some ⟨g, 0, none⟩, cap, rfl, fun _ => ⟨g, cur, rfl, hg, fun j x hj => ?_⟩⟩
    have hl : j < ss.length := (List.getElem?_eq_some_iff.1 hj).1
    rw [h.cellAt j (by omega), List.getElem?_map, hj]
    rfl
/-- A file's two texts are others. -/
theorem Sg.filed {w w' : World} {fb b1 b2 b3 : Nat} {done : Value} {came : Nat} {used : Int} {room steps n1 n2 n3 k : Nat} {D1 D2 D3 : DataW Value} {xs : List Value} (h : Sg pl A B0 w fb b1 b2 b3 done came used room steps n1 n2 n3 k D1 D2 D3 xs) {xb num : Nat} {now sure a s : ByteArray} {links : Int} (hF : FileAt w xb num now sure links) (hF' : FileAt w' xb num a s links) (hk : Kept [xb] w w') (hfx : fb ≠ xb) (hnum : num < 1000000) (ha : a.size ≤ 100000000) (hs : s.size ≤ 100000000) (hAx : A xb) :
    Sg pl A B0 w' fb b1 b2 b3 done came used room steps n1 n2 n3 k D1 D2 D3 xs ∧ ∀ xo, ¬ xo xb → Frm A fb xo w w' := by
  have e1 := file_ne_map hF h.m1
  have e2 := file_ne_map hF h.m2
  have e3 := file_ne_map hF h.m3
  have e4 := row_ne_cells h.row hF (by decide)
  refine ⟨h.kept hk (by simpa using hfx) (by simpa using fun e => e1 e.symm) (by simpa using fun e => e2 e.symm) (by simpa using fun e => e3 e.symm) (fun g hg => ?_), fun xo hx => Frm.of_lay hF hF' (hk.sub (by simp)) (h.inner b3 (by simp)) hfx hnum ha hs hx hAx⟩
  rw [hg] at e4
  simp at e4 ⊢
  exact fun e => e4 e.symm
theorem names_files {w : World} {fb : Nat} {E : Lit → Value → Prop} {D : DataW Value} (h : NamesOK A w fb E D) : Files A w fb D := fun kl v hk hv => by
  obtain ⟨u, ⟨⟨_, a, _, _, rfl, hP⟩, _⟩, hu⟩ := h.vals kl hk
  have e : v = .pointer a := DataW.held.inj ((hv (.held (.pointer none))).symm.trans (hu _))
  subst e
  rcases hP with rfl | ⟨xb, rfl, hAx, num, now, sure, links, hF, hfx, _, hns, _⟩
  · exact .inl rfl
  · exact .inr ⟨xb, num, now, sure, links, rfl, hfx, hF, hns, hAx⟩
/-- The names and the unsure ones behind a fall, ahead of the count. -/
theorem crash_end {w : World} {fb b3 nb n n3 : Nat} {nv dv sv : Value} {came used room steps : Int} {D D3 : DataW Value} (h : FsAt w fb nv sv dv (.map (some b3)) came used room steps false pl) (hm : NMap w nb n D) (h3 : UMap w b3 n3 D3) (hn3 : nb ≠ b3) (hA3 : A b3) (hA0 : A fb) :
    ∃ w6, (∀ ty, (Builtin.clear_ #[52] ty #[.map (some b3)]).run Tryz.prog ((w.setCell ⟨fb, 0, none⟩ (.map (some nb))).setCell ⟨fb, 2, none⟩ (.slice none 0 0)) = .ok (.tuple #[]) w6) ∧
      FsAt w6 fb (.map (some nb)) sv (.slice none 0 0) (.map (some b3)) came used room steps false pl ∧ NMap w6 nb n D ∧ UMap w6 b3 0 (.map []) ∧ Kept [fb, b3] w w6 ∧ ∀ xo, Frm A fb xo w w6 := by
  have hk : Kept [fb] w ((w.setCell ⟨fb, 0, none⟩ (.map (some nb))).setCell ⟨fb, 2, none⟩ (.slice none 0 0)) := ((Kept.set fb 0 _).trans (Kept.set fb 2 _)).sub (by simp)
  have hH : FsAt ((w.setCell ⟨fb, 0, none⟩ (.map (some nb))).setCell ⟨fb, 2, none⟩ (.slice none 0 0)) fb (.map (some nb)) sv (.slice none 0 0) (.map (some b3)) came used room steps false pl := by
    have a1 := heap_setCell_same w fb 0 _ 54 (.map (some nb)) h
    unfold FsAt
    rw [heap_setCell_same _ fb 2 _ 54 _ a1]
    rfl
  have m1 := file_ne_map h hm
  have m3 := file_ne_map h h3
  have hm' := hk.map hm (by simpa using fun e => m1 e.symm)
  have h3' := hk.map h3 (by simpa using fun e => m3 e.symm)
  obtain ⟨w6, r1, r2, r3⟩ := clear_run h3'
  refine ⟨w6, r1, r3.fs hH (by simpa using m3), r3.map hm' (by simpa using hn3), r2, (hk.trans r3).sub (by simp), fun xo => (Frm.fs1 hk h hA0).trans (Frm.of_kept r3 (fun b hb => ?_))⟩
  simp at hb
  subst hb
  exact .inr ⟨.inl (map_fact h3'), hA3⟩
end Go.Proofs.YtknmmlfdlfioiaaGreatDoor.Vc
namespace Go.Proofs.YtknmmlfdlfioiaaGreatDoor.Vc
open Go.RowKit Go.Shelf Go.Maps Go.Sort
variable {B0 : Nat} {A : Nat → Prop} {pl : Value}
section
variable {w : World} {fb b1 b2 b3 : Nat} {done : Value} {came : Nat} {used : Int} {room steps n1 n2 n3 k : Nat} {D1 D2 D3 : DataW Value} {l : List Ac}
/-- A file's two texts are one. -/
def Tidy (w : World) (D3 : DataW Value) (x : Int) : Prop := ∀ xb : Nat, (∀ zd, D3.atKey (.int .i64 x) zd = .held (.pointer (some ⟨xb, 0, none⟩))) → ∃ (num : Nat) (t : ByteArray) (l : Int), FileAt w xb num t t l ∧ t.size ≤ 100000000
/-- What a fall leaves. -/
def CrashTo (pl : Value) (A : Nat → Prop) (E : Lit → Value → Prop) (w : World) (fb : Nat) (b2 b3 : Nat) (came : Nat) (room steps n2 k : Nat) (D2 D3 : DataW Value) (l : List Ac) (keep : Int) (xo : Nat → Prop) (e : Ending) (w' : World) : Prop :=
  e = .returned (.tuple #[]) ∧ ∃ (nb n : Nat) (D : DataW Value) (l' : List Ac) (u : Int), l'.Sublist l ∧ (keep = 0 → l' = []) ∧ Dos D2 l' D ∧ n ≤ n2 + k ∧ NamesOK A w' fb E D ∧ 0 ≤ u ∧ u ≤ 100000000 * (n : Int) ∧ (∀ M : Nat, SzM M w' D → u ≤ (M : Int) * (Maps.size D : Int)) ∧ FsAt w' fb (.map (some nb)) (.map (some b2)) (.slice none 0 0) (.map (some b3)) came u room steps true pl ∧ NMap w' nb n D ∧ NMap w' b2 n D ∧ UMap w' b3 0 (.map []) ∧ nb ≠ b2 ∧ nb ≠ b3 ∧ w.heap.size ≤ nb ∧ (∀ x : Int, Maps.has D3 (.int .i64 x) = true → Tidy w' D3 x) ∧ Frm A fb xo w w'
theorem Tidy.same {w w' : World} {D3 : DataW Value} {x : Int} (h : Tidy w D3 x) (hs : ∀ (xb num : Nat) (t : ByteArray) (l : Int), FileAt w xb num t t l → ∃ l', FileAt w' xb num t t l') : Tidy w' D3 x := fun xb hx => by
  obtain ⟨num, t, l, h1, h2⟩ := h xb hx
  obtain ⟨l', h3⟩ := hs xb num t l h1
  exact ⟨num, t, l', h3, h2⟩
theorem take_sub (l : List Ac) (j : Nat) : (l.take j).Sublist (l.take (j + 1)) := by
  have h : l.take j = (l.take (j + 1)).take j := by rw [List.take_take, Nat.min_eq_left (by omega)]
  rw [h]
  exact List.take_sublist _ _
/-- Its memory while acts are done to the sure names. -/
structure CMem (pl : Value) (A : Nat → Prop) (B0 : Nat) (E : Lit → Value → Prop) (w : World) (fb b1 b2 b3 : Nat) (done : Value) (came : Nat) (used : Int) (room steps n1 n2 n3 k : Nat) (D1 D2 D3 : DataW Value) (l : List Ac) (keep : Int) (kb j : Nat) (wr : World) : Prop where
  st : ∃ D n l', n ≤ n2 + j ∧ (l'.Sublist (l.take j) ∧ (keep = 0 → l' = [])) ∧ Dos D2 l' D ∧ NamesOK A wr fb E D ∧ Sg pl A B0 wr fb b1 b2 b3 done came used room steps n1 n n3 k D1 D D3 (acsV l)
  pc : wr.heap[kb]? = some (.cells #[.int .u64 keep] 30 (0, 0))
  frm : ∀ xo, Frm A fb xo w wr
theorem CMem.under {E : Lit → Value → Prop} {kb j : Nat} {keep : Int} {wr w' : World} (h : CMem pl A B0 E w fb b1 b2 b3 done came used room steps n1 n2 n3 k D1 D2 D3 l keep kb j wr) (hk : Kept [] wr w') : CMem pl A B0 E w fb b1 b2 b3 done came used room steps n1 n2 n3 k D1 D2 D3 l keep kb j w' := by
  obtain ⟨D, n, l', h1, h2, h3, h4, h5⟩ := h.st
  exact ⟨⟨D, n, l', h1, h2, h3, h4.frm (xo := NoX) (Frm.kept0 (A := A) hk), h5.keep0 hk⟩, hk.fs h.pc (by simp), fun xo => (h.frm xo).trans (Frm.kept0 hk)⟩
theorem CMem.more {E : Lit → Value → Prop} {kb j : Nat} {keep : Int} {wr : World} (h : CMem pl A B0 E w fb b1 b2 b3 done came used room steps n1 n2 n3 k D1 D2 D3 l keep kb j wr) : CMem pl A B0 E w fb b1 b2 b3 done came used room steps n1 n2 n3 k D1 D2 D3 l keep kb (j + 1) wr := by
  obtain ⟨D, n, l', h1, ⟨h2, h3⟩, h4⟩ := h.st
  exact ⟨⟨D, n, l', by omega, ⟨h2.trans (take_sub l j), h3⟩, h4⟩, h.pc, h.frm⟩
/-- Its memory while files are made sure. -/
structure GMem (pl : Value) (A : Nat → Prop) (B0 : Nat) (E : Lit → Value → Prop) (w : World) (fb b1 b2 b3 : Nat) (done : Value) (came : Nat) (used : Int) (room steps n1 n n3 k : Nat) (D1 D D3 : DataW Value) (l : List Ac) (keep : Int) (kb : Nat) (xo : Nat → Prop) (v : Value) (ss : List Int) (i : Nat) (wr : World) : Prop where
  st : NamesOK A wr fb E D ∧ Sg pl A B0 wr fb b1 b2 b3 done came used room steps n1 n n3 k D1 D D3 (acsV l)
  pc : wr.heap[kb]? = some (.cells #[.int .u64 keep] 30 (0, 0))
  frm : Frm A fb xo w wr
  row : IntRow wr v ss
  uok : UOK A wr fb xo D3
  tidy : ∀ (j : Nat) (x : Int), j < i → ss[j]? = some x → Tidy wr D3 x
section
variable {E : Lit → Value → Prop} {n kb : Nat} {D : DataW Value} {keep : Int} {xo : Nat → Prop} {v : Value} {ss : List Int} {wr w' : World}
theorem GMem.filed {i : Nat} {x : Int} (h : GMem pl A B0 E w fb b1 b2 b3 done came used room steps n1 n n3 k D1 D D3 l keep kb xo v ss i wr) {xb num : Nat} {now sure t : ByteArray} {links : Int} (hF : FileAt wr xb num now sure links) (hF' : FileAt w' xb num t t links) (hk : Kept [xb] wr w') (hfx : fb ≠ xb) (hnum : num < 1000000) (ht : t.size ≤ 100000000) (hx : ¬ xo xb) (hsx : ss[i]? = some x) (hat : ∀ zd, D3.atKey (.int .i64 x) zd = .held (.pointer (some ⟨xb, 0, none⟩))) (hAx : A xb) : GMem pl A B0 E w fb b1 b2 b3 done came used room steps n1 n n3 k D1 D D3 l keep kb xo v ss (i + 1) w' := by
  obtain ⟨h1, h2⟩ := h.st
  obtain ⟨a1, a2⟩ := h2.filed hF hF' hk hfx hnum ht ht hAx
  have a3 := a2 xo hx
  refine ⟨⟨h1.frm a3, a1⟩, a3.foreign _ _ _ _ h.pc (by decide) (by decide) (by decide), h.frm.trans a3, h.row.frm a3, h.uok.frm a3, fun j y hj hy => ?_⟩
  by_cases e : j = i
  · subst e
    rw [hsx] at hy
    obtain rfl := Option.some.inj hy
    intro yb hyb
    have e2 := (hyb (.held (.pointer none))).symm.trans (hat _)
    simp only [DataW.held.injEq, Value.pointer.injEq, Option.some.injEq, Addr.mk.injEq] at e2
    obtain rfl := e2.1
    exact ⟨num, t, links, hF', ht⟩
  · intro yb hyb
    obtain ⟨num', t', l', hy', ht'⟩ := h.tidy j y (by omega) hy yb hyb
    by_cases e2 : yb = xb
    · subst e2
      exact ⟨num, t, links, hF', ht⟩
    · exact ⟨num', t', l', hk.fs hy' (by simpa using e2), ht'⟩
end
set_option maxHeartbeats 3200000 in
set_option maxRecDepth 100000 in
theorem crash_gen {E : Lit → Value → Prop} {xo : Nat → Prop} (hS : Sg pl A B0 w fb b1 b2 b3 done came used room steps n1 n2 n3 k D1 D2 D3 (acsV l)) (hlk : l.length = k) (hk : k < 900000) (hn2 : n2 < 900000) (hn3 : n3 < 900000) (hE2 : NamesOK A w fb E D2) (hl : ∀ a ∈ l, AcOK a ∧ PtrOK A w fb a.f ∧ ∀ w', Frm A fb NoX w w' → ActV (fun kl v => VW A w' fb kl v ∧ E kl v) a) (hu : UOK A w fb xo D3) (keep tn : Int) :
    Calls Tryz.prog 12 #[.pointer (some ⟨fb, 0, none⟩), .int .u64 keep, .int .i64 tn] w fun e w' => CrashTo pl A E w fb b2 b3 came room steps n2 k D2 D3 l keep xo e w' := by
  obtain ⟨W, hW⟩ : ∃ W, w.alloc (.cells #[.int .u64 keep] 30) = W := ⟨_, rfl⟩
  have hkW : Kept [] w W := by rw [← hW]; exact Kept.alloc _ _
  have hrow : W.heap[w.heap.size]? = some (.cells #[.int .u64 keep] 30 (0, 0)) := by rw [← hW]; exact alloc_at rfl
  have HD : Hid (Calls Tryz.prog 8 #[.pointer (some ⟨fb, 0, none⟩)] W fun e w' => e = .returned (.bool false) ∧ W = w') := hideIt ((dead_any (hS.keep0 hkW).fs).mono fun _ _ h => ⟨h.1, h.2.symm⟩)
  have HY : Hid (CMem pl A B0 E w fb b1 b2 b3 done came used room steps n1 n2 n3 k D1 D2 D3 l keep w.heap.size 0 W) := hideIt ⟨⟨D2, n2, [], by omega, ⟨List.nil_sublist _, fun _ => rfl⟩, rfl, hE2.frm (xo := NoX) (Frm.kept0 (A := A) hkW), hS.keep0 hkW⟩, hrow, fun xo => Frm.kept0 hkW⟩
  have e2 := fs2 (hS.keep0 hkW).fs
  have de := kept_enters
  have HL := hideIt hl
  have HK := hideIt hlk
  have HU := hideIt hu
  obtain ⟨da, dc, rfl⟩ := row_slice hS.row
  clear hS hrow hkW hE2 hl hlk hu
  go_enter Tryz.func12, Tryz.ntmps12
  go_wp2_with (first | (go_at_call 8; refine HD.out.mono ?_; rintro e wx ⟨rfl, rfl⟩))
  clear HD
  have kI : (k : Int) < 900000 := by omega
  go_loopw [20] (fun t wr => ∃ j : Nat, j ≤ k ∧ t = .int .i64 j ∧ CMem pl A B0 E w fb b1 b2 b3 (.slice da k dc) came used room steps n1 n2 n3 k D1 D2 D3 l keep w.heap.size j wr) (fun t _ => k - (intOf t).toNat)
  case atStart => exact ⟨0, by omega, rfl, HY.out⟩
  case round =>
    obtain ⟨j, hj, rfl, hy⟩ := hrel
    clear HY
    by_cases hlt : j < k
    · have hid : decide ((j : Int) < (k : Int)) = true := decide_eq_true (by omega)
      have j1 : (j : Int) < (k : Int) := by omega
      obtain ⟨a, ha⟩ : ∃ a, l[j]? = some a := ⟨l[j]'(by rw [HK.out]; exact hlt), by simp⟩
      obtain ⟨D, n, l', hn, hl', hD, hNO, hS⟩ := hy.st
      obtain ⟨g, rfl⟩ := row_some hS.row (by omega)
      have f4 := four_row hS.row ha
      have c0 := f4.c0
      have c1 := f4.c1
      have c2 := f4.c2
      have c3 := f4.c3
      obtain ⟨W1, hW1⟩ : ∃ W, wr.alloc (.cells #[.int .i64 a.kind, .string a.p, .string a.to, .pointer a.f] 69) = W := ⟨_, rfl⟩
      have hkA : Kept [] wr W1 := by rw [← hW1]; exact Kept.alloc _ _
      have hrw : W1.heap[wr.heap.size]? = some (.cells #[.int .i64 a.kind, .string a.p, .string a.to, .pointer a.f] 69 (0, 0)) := by rw [← hW1]; exact alloc_at rfl
      have hal := HL.out a (List.mem_of_getElem? ha)
      have hY3 := hy.under hkA
      obtain ⟨z, hz0, hz⟩ := kept_det j (by omega) keep
      have HZ0 := hideIt hz0
      clear hz0
      have HIN : Hid (Calls Tryz.prog 24 #[.int .i64 (j : Int), .pointer (some ⟨w.heap.size, 0, none⟩)] W1 fun e w' => e = .returned (.bool z) ∧ W1 = w') := hideIt ((hz W1 w.heap.size (cellAt hY3.pc rfl)).mono fun _ _ h => ⟨h.1, h.2.symm⟩)
      have HYA := hideIt hY3
      have HA := hideIt ha
      have HAL := hideIt hal
      have HRW := hideIt hrw
      clear hy hS hNO hD f4 hkA hrw hal hz ha hn hY3 hl'
      cases z with
      | false =>
        go_wp2_with (first | (go_at_call 24; refine HIN.out.mono ?_; rintro e w3 ⟨rfl, rfl⟩))
        go_roundw
        case rel => exact ⟨j + 1, by omega, by go_num, HYA.out.more⟩
        case measure => simp [intOf]; omega
      | true =>
        go_wp2_with (first | (go_at_call 24; refine HIN.out.mono ?_; rintro e w3 ⟨rfl, rfl⟩))
        have hY3 := HYA.out
        have hrow3 := HRW.out
        obtain ⟨D, n, l', hn, hl', hD, hNO, hS3⟩ := hY3.st
        have e1 := fs1 hS3.fs
        have a0 : W1.cell? ⟨wr.heap.size, 0, none⟩ = some (.int .i64 a.kind) := cellAt hrow3 rfl
        have a1 : W1.cell? ⟨wr.heap.size, 1, none⟩ = some (.string a.p) := cellAt hrow3 rfl
        have a2 : W1.cell? ⟨wr.heap.size, 2, none⟩ = some (.string a.to) := cellAt hrow3 rfl
        have a3 : W1.cell? ⟨wr.heap.size, 3, none⟩ = some (.pointer a.f) := cellAt hrow3 rfl
        have HD : Hid (∀ X, Same W1 X → Calls Tryz.prog 25 #[.map (some b2), .agg #[.int .i64 a.kind, .string a.p, .string a.to, .pointer a.f]] X fun e w' => e = .returned (.tuple #[]) ∧ CMem pl A B0 E w fb b1 b2 b3 (.slice (some ⟨g, 0, none⟩) k dc) came used room steps n1 n2 n3 k D1 D2 D3 l keep w.heap.size (j + 1) w' ∧ w'.cell? ⟨fb, 1, none⟩ = some (.map (some b2)) ∧ w'.heap[wr.heap.size]? = some (.cells #[.int .i64 a.kind, .string a.p, .string a.to, .pointer a.f] 69 (0, 0))) := hideIt (fun X hX => by
          have hSX := hS3.keep0 hX.kept
          have hNX := hNO.frm (xo := NoX) (Frm.kept0 (A := A) hX.kept)
          have hPf := HAL.out.2.1.frm ((hY3.frm NoX).trans (Frm.kept0 hX.kept))
          refine (do_gen hSX.m2 (by omega) hNX a HAL.out.1 hPf).mono fun _ w' ⟨h1, D', n', h2, h3, h4, h5⟩ => ?_
          have hfr : ∀ xo, Frm A fb xo X w' := fun xo => Frm.of_kept h5 (fun b hb => hSX.inner b (by simp at hb; simp [hb]))
          have hS' := hSX.sured h4 h5
          have hwf := ((hY3.frm NoX).trans (Frm.kept0 hX.kept)).trans (hfr NoX)
          refine ⟨h1, ⟨⟨D', n', l' ++ [a], by omega, ⟨?_, fun hk0 => by have := HZ0.out hk0; cases this⟩, Dos.snoc hD h3, (hNX.frm (hfr NoX)).does (HAL.out.2.2 w' hwf) h3, hS'⟩, ?_, fun xo => ((hY3.frm xo).trans (Frm.kept0 hX.kept)).trans (hfr xo)⟩, fs1 hS'.fs, ?_⟩
          · obtain ⟨hja, ea⟩ := List.getElem?_eq_some_iff.1 HA.out
            rw [List.take_succ_eq_append_getElem hja, ea]
            exact List.Sublist.append hl'.1 (List.Sublist.refl _)
          · exact (hfr NoX).foreign _ _ _ _ (hX.kept.fs hY3.pc (by simp)) (by decide) (by decide) (by decide)
          · refine h5.fs (hX.kept.fs hrow3 (by simp)) ?_
            have := hSX.m2.lt
            have h6 := file_ne_map (hX.kept.fs hrow3 (by simp)) hSX.m2
            simpa using h6)
        clear hY3 hS3 hNO hD hrow3 hn hl'
        go_region_held3 (fun X => X.cell? ⟨fb, 1, none⟩ = some (.map (some b2)) ∧ X.cell? ⟨wr.heap.size, 0, none⟩ = some (.int .i64 a.kind) ∧ X.cell? ⟨wr.heap.size, 1, none⟩ = some (.string a.p) ∧ X.cell? ⟨wr.heap.size, 2, none⟩ = some (.string a.to) ∧ X.cell? ⟨wr.heap.size, 3, none⟩ = some (.pointer a.f)) (first | exact ⟨e1, a0, a1, a2, a3⟩ | exact ⟨hc4, cellAt hr4 rfl, cellAt hr4 rfl, cellAt hr4 rfl, cellAt hr4 rfl⟩ | assumption) (first | (go_at_call 25; refine (HD.out _ (by exact ⟨rfl, rfl, rfl, rfl⟩)).mono ?_; rintro e w4 ⟨rfl, hy4, hc4, hr4⟩))
        go_wp2
        go_roundw
        case rel => exact ⟨j + 1, by omega, by go_num, hy4⟩
        case measure => simp [intOf]; omega
    · have hid : decide ((j : Int) < (k : Int)) = false := decide_eq_false (by omega)
      obtain rfl : j = k := by omega
      obtain ⟨D, n, l', hn, hl', hD, hNO, hS⟩ := hy.st
      have e3 := fs3 hS.fs
      have HX : Hid (Calls Tryz.prog 26 #[.func (.func 51) #[] #[.pointer (some ⟨wr.heap.size, 0, none⟩)]] (wr.alloc (.cells #[.map (some b3)] 52)) fun e w' => ∃ (a : Option Addr) (c : Nat) (ss : List Int), e = .returned (.slice a ss.length c) ∧ ss.length ≤ n3 ∧ ((∀ x ∈ ss, Maps.has D3 (.int .i64 x) = true ∧ (Lit.int .i64 x).wf = true) ∧ ∀ x : Int, Maps.has D3 (.int .i64 x) = true → x ∈ ss) ∧ GMem pl A B0 E w fb b1 b2 b3 (.slice da j dc) came used room steps n1 n n3 j D1 D D3 l keep w.heap.size xo (.slice a ss.length c) ss 0 w') := hideIt (by
        have hk2 : Kept [] wr (wr.alloc (.cells #[.map (some b3)] 52)) := Kept.alloc _ _
        have hrw : (wr.alloc (.cells #[.map (some b3)] 52)).heap[wr.heap.size]? = some (.cells #[.map (some b3)] 52 (0, 0)) := alloc_at rfl
        refine (sorted_any _ wr.heap.size b3 n3 (by omega) (cellAt hrw rfl) (block_lt hrw) (hk2.map hS.m3 (by simp))).mono fun e w' ⟨v, ss, he, h1, h2, h2c, h3, h4⟩ => ?_
        have hk3 : Kept [] wr w' := (hk2.trans h4).sub (by simp)
        have hr := IntRow.of_row h3
        obtain ⟨a, c, rfl, hr2⟩ := hr
        have hw := (hy.frm xo).trans (Frm.kept0 hk3)
        exact ⟨a, c, ss, he, h1, ⟨h2, h2c⟩, ⟨hNO.frm (xo := NoX) (Frm.kept0 (A := A) hk3), hS.keep0 hk3⟩, hk3.fs hy.pc (by simp), hw, ⟨a, c, rfl, hr2⟩, HU.out.frm hw, fun j y hj => by omega⟩)
      have HDD := hideIt hD
      have HLL := hideIt hl'
      have HNL : Hid (n ≤ n2 + j) := hideIt hn
      clear hy hS hNO hD hl'
      go_wp2_with (first | (go_at_call 27; refine (keys_any (some b3) _).mono ?_; rintro e wy ⟨rfl, rfl⟩) | (go_at_call 26; refine HX.out.mono ?_; rintro e w4 ⟨sa, sc, ss, rfl, hsl, hsk, hdm⟩; have HSK := hideIt hsk; have HDM := hideIt hdm; clear hsk hdm))
      clear HX
      obtain ⟨m, hm⟩ : ∃ m, ss.length = m := ⟨_, rfl⟩
      rw [hm] at hsl HDM ⊢
      have HM := hideIt hm
      clear hm
      have mI : (m : Int) < 900000 := by omega
      go_loopw [2, 42] (fun u t wx => ∃ (i : Nat) (tx : Int), i ≤ m ∧ t = .int .i64 i ∧ u = .int .i64 tx ∧ GMem pl A B0 E w fb b1 b2 b3 (.slice da j dc) came used room steps n1 n n3 j D1 D D3 l keep w.heap.size xo (.slice sa m sc) ss i wx) (fun _ t _ => m - (intOf t).toNat)
      case atStart => exact ⟨0, tn, by omega, rfl, rfl, HDM.out⟩
      case round =>
        obtain ⟨i, tx, hi, rfl, rfl, hg⟩ := hrel
        clear HDM
        by_cases hlm : i < m
        · have hie : decide ((i : Int) < (m : Int)) = true := decide_eq_true (by omega)
          have i1 : (i : Int) < (m : Int) := by omega
          obtain ⟨x, hx⟩ : ∃ x, ss[i]? = some x := ⟨ss[i]'(by rw [HM.out]; exact hlm), by simp⟩
          obtain ⟨hxh, hxw⟩ := HSK.out.1 x (List.mem_of_getElem? hx)
          obtain ⟨ra, rc, re, hr2⟩ := hg.row
          obtain ⟨sg, cur, rfl, hcur, hcell⟩ := hr2 (by rw [HM.out]; omega)
          simp only [Value.slice.injEq] at re
          obtain ⟨rfl, -, rfl⟩ := re
          have x0 := hcell i x hx
          obtain ⟨xb, hat, ⟨hAx, num, now, sure, links, hF, hfx, hnum, hnow, hsure⟩, hxo⟩ := hg.uok x hxh
          have q3 := fs3 hg.st.2.fs
          have q2 := fs2 hg.st.2.fs
          have hlk := look_num hg.st.2.m3 x hxw hat
          obtain ⟨y, hy⟩ : ∃ y : Nat, j + i = y := ⟨_, rfl⟩
          have hyI : (j : Int) + (i : Int) = (y : Int) := by omega
          have hyb : (y : Int) < 4000000 := by omega
          obtain ⟨z, -, hz⟩ := kept_det y (by omega) keep
          have HIN : Hid (Calls Tryz.prog 24 #[.int .i64 (y : Int), .pointer (some ⟨w.heap.size, 0, none⟩)] wr fun e w' => e = .returned (.bool z) ∧ wr = w') := hideIt ((hz wr w.heap.size (cellAt hg.pc rfl)).mono fun _ _ h => ⟨h.1, h.2.symm⟩)
          have f1 := fl1 hF
          have f2 := fl2 hF
          have f1f := thawAt hF 1
          have f2f := thawAt hF 2
          have HT := hideIt (torn_max hF hnow hsure tx)
          have HG := hideIt hg
          have HF := hideIt hF
          have HXO := hideIt hxo
          have HSX := hideIt hx
          have HAT := hideIt hat
          clear hg hF hx hat hcur hcell hr2 hz hxh hxw hxo hy
          cases z with
          | true =>
            go_wp2_with (first | (go_at_call 24; refine HIN.out.mono ?_; rintro e w3 ⟨rfl, rfl⟩))
            go_roundw
            case rel =>
              refine ⟨i + 1, tx, by omega, by go_num, rfl, HG.out.filed (t := now) HF.out ?_ (Kept.set xb 2 _) hfx hnum hnow HXO.out HSX.out HAT.out hAx⟩
              unfold FileAt
              rw [heap_setCell_same _ xb 2 _ 78 _ HF.out]
              rfl
            case measure => simp [intOf]; omega
          | false =>
            go_wp2_with (first | (go_at_call 24; refine HIN.out.mono ?_; rintro e w3 ⟨rfl, rfl⟩) | (go_at_call 28; refine HT.out.mono ?_; rintro e w3 ⟨⟨tt, rfl, htt⟩, hk3⟩; have hF3 := hk3.fs HF.out (by simp); have g1 := fl1 hF3; have g1f := thawAt hF3 1; have hF4 : FileAt (w3.setCell ⟨xb, 1, none⟩ (.string tt)) xb num tt sure links := (by unfold FileAt; rw [heap_setCell_same _ xb 1 _ 78 _ hF3]; rfl); have g2 := fl1 hF4; have g3 := fl2 hF4; have g3f := thawAt hF4 2; have HF4 := hideIt hF4; have HK3 := hideIt hk3; clear hF3 hF4 hk3))
            go_roundw
            case rel =>
              refine ⟨i + 1, 0, by omega, by go_num, rfl, HG.out.filed (t := tt) HF.out ?_ (((HK3.out.trans (Kept.set xb 1 _)).trans (Kept.set xb 2 _)).sub (by simp)) hfx hnum htt HXO.out HSX.out HAT.out hAx⟩
              unfold FileAt
              rw [heap_setCell_same _ xb 2 _ 78 _ HF4.out]
              rfl
            case measure => simp [intOf]; omega
        · have hie : decide ((i : Int) < (m : Int)) = false := decide_eq_false (by omega)
          obtain ⟨hNO, hS⟩ := hg.st
          have q1 := fs1 hS.fs
          have HS := hideIt hS
          have HNO := hideIt hNO
          have HFR := hideIt hg.frm
          obtain rfl : i = m := by omega
          have HTD : Hid (∀ x : Int, Maps.has D3 (.int .i64 x) = true → Tidy wr D3 x) := hideIt (fun x hx => by
            obtain ⟨j', hj', e'⟩ := List.getElem_of_mem (HSK.out.2 x hx)
            exact hg.tidy j' x (by rw [← HM.out]; exact hj') (by rw [List.getElem?_eq_getElem hj', e']))
          clear hg hS hNO
          go_wp2_with (first | (go_at_call 29; refine (clone_names HS.out.m2).mono ?_; rintro e w5 ⟨rfl, hm5, hk5⟩; have hS5 := HS.out.keep0 hk5; obtain ⟨w6, hcl, hH6, hm6, hu6, hkk6, hf6⟩ := crash_end hS5.fs hm5 hS5.m3 (by have := HS.out.m3.lt; omega) hS5.a3 hS5.a0; have HU6 := hideIt hu6; have HKK6 := hideIt ((hk5.trans hkk6).sub (cs := [fb, b3]) (by simp)); clear hu6 hkk6; have s0 := fs0 hS5.fs; have s0f := thawAt hS5.fs 0; have s2 := fs2 hS5.fs; have s2f := thawAt hS5.fs 2; have s3 := fs3 hS5.fs; have HH6 := hideIt hH6; have HM6 := hideIt hm6; have HF6 := hideIt (fun xo => (Frm.kept0 (A := A) (fb := fb) (xo := xo) hk5).trans (hf6 xo)); clear hS5 hm5 hk5 hH6 hm6 hf6) | (go_at_call 30; refine (count_gen HH6.out HM6.out (names_files (HNO.out.frm (HF6.out NoX))) (by omega)).mono ?_; rintro e w7 ⟨rfl, u7, hu70, hu71, hu72, hH7, hm7, ht7⟩; have z9 := fs9 hH7; have z9f := thawAt hH7 9))
          have hfr : ∀ xo, Frm A fb xo wr (w7.setCell ⟨fb, 9, none⟩ (.bool true)) := fun xo => ((HF6.out xo).trans (Frm.of_tell ht7 ⟨_, _, HH6.out⟩ HS.out.a0)).trans (Frm.fs1 (Kept.set fb 9 _) hH7 HS.out.a0)
          have hsame : ∀ {kt : TypeId} {b q : Nat} {Dx : DataW Value}, w6.ownsMap Tryz.prog kt anyE b q Dx → (w7.setCell ⟨fb, 9, none⟩ (.bool true)).ownsMap Tryz.prog kt anyE b q Dx := by
            intro kt b q Dx hmx
            have m1 := file_ne_map HH6.out hmx
            obtain ⟨es, c, h1, r⟩ := hmx
            exact (Kept.set fb 9 _).map ⟨es, c, ht7.same h1 (fun e => m1 e.symm) (fun arr => by simp), r⟩ (by simpa using fun e => m1 e.symm)
          have hm26 : NMap w6 b2 n D := HKK6.out.map HS.out.m2 (by
            have e2 := file_ne_map HS.out.fs HS.out.m2
            simp; exact ⟨fun e => e2 e.symm, HS.out.d23⟩)
          have hlt2 := HS.out.m2.lt
          have hlt3 := HS.out.m3.lt
          refine bodyPost_end (results_none Tryz.results12 _ _ _) rfl ⟨rfl, wr.heap.size, n, D, l', u7, ?_, HLL.out.2, HDD.out, HNL.out, HNO.out.frm (hfr NoX), hu70, hu71, fun M hM => hu72 M (fun kl xb h1 h2 num now sure links hF => ?_), ?_, hsame HM6.out, hsame hm26, hsame HU6.out, by omega, by omega, HFR.out.size, fun x hx => ?_, HFR.out.trans (hfr xo)⟩
          · have := HLL.out.1
            rw [List.take_of_length_le (by rw [HK.out]; exact Nat.le_refl _)] at this
            exact this
          · have hfx : fb ≠ xb := fun e => by
              subst e
              have h0 := HH6.out
              unfold FsAt at h0
              unfold FileAt at hF
              rw [hF] at h0
              simp only [Option.some.injEq, Obj.cells.injEq] at h0
              exact absurd h0.2.1 (by decide)
            obtain ⟨l7, hF7⟩ := ht7.file hF hfx
            exact hM kl xb h1 h2 num now sure l7 ((Kept.set fb 9 _).fs hF7 (by simpa using fun e => hfx e.symm))
          · unfold FsAt
            rw [heap_setCell_same w7 fb 9 _ 54 _ hH7]
            rfl
          · intro xb hat
            obtain ⟨num, t, l0, hF, ht⟩ := HTD.out x hx xb hat
            have hfx : fb ≠ xb := fun e => by
              subst e
              have h0 := HS.out.fs
              unfold FsAt at h0
              unfold FileAt at hF
              rw [hF] at h0
              simp only [Option.some.injEq, Obj.cells.injEq] at h0
              exact absurd h0.2.1 (by decide)
            have hb3 := file_ne_map hF HS.out.m3
            have hF6 : FileAt w6 xb num t t l0 := HKK6.out.fs hF (by simp; exact ⟨fun e => hfx e.symm, hb3⟩)
            obtain ⟨l7, hF7⟩ := ht7.file hF6 hfx
            exact ⟨num, t, l7, (Kept.set fb 9 _).fs hF7 (by simpa using fun e => hfx e.symm), ht⟩
end
end Go.Proofs.YtknmmlfdlfioiaaGreatDoor.Vc
namespace Go.Proofs.YtknmmlfdlfioiaaGreatDoor.Vc
open Go.RowKit Go.Shelf Go.Maps
/-- A file's bytes, and the sure ones. -/
structure Fl where
  now : ByteArray
  sure : ByteArray
/-- Names: nothing, a folder, or a file by its number. -/
abbrev Nm := ByteArray → Option (Option Nat)
/-- Something that was done to names. -/
structure Pa where
  kind : Nat
  p : ByteArray
  to : ByteArray
  f : Option Nat
/-- Is a folder there? -/
def isDir (n : Nm) (p : ByteArray) : Bool := p.data.toList.isEmpty || (match n p with
  | some none => true
  | _ => false)
def pvN (n : Nm) (p : ByteArray) : Option Nat := match n p with
  | some v => v
  | none => none
def NoKidsN (n : Nm) (p : ByteArray) : Prop := ∀ q, n q ≠ none → (dirOf q).data.toList ≠ p.data.toList
open Classical in
/-- Something is done to names, where they allow it. -/
noncomputable def doN (n : Nm) (a : Pa) : Nm :=
  if a.kind = 0 then (if n a.p = none ∧ isDir n (dirOf a.p) = true then (fun q => if q = a.p then some a.f else n q) else n)
  else if a.kind = 1 then (if isDir n (dirOf a.to) = true ∧ (isDir n a.to = false ∨ NoKidsN n a.to) then (fun q => if q = a.to then some a.f else if q = a.p ∧ pvN n a.p = a.f then none else n q) else n)
  else (if n a.p ≠ none ∧ pvN n a.p = a.f ∧ (isDir n a.p = false ∨ NoKidsN n a.p) then (fun q => if q = a.p then none else n q) else n)
/-- What a map holds under a path. -/
def lk (D : DataW Value) (p : ByteArray) : Option (Option Addr) := if Maps.has D (key p) then some (pv D p) else none
def ptrOf (F : Nat → Nat) : Option Nat → Option Addr
  | none => none
  | some x => some ⟨F x, 0, none⟩
/-- A map stands for names. -/
def Nr (F : Nat → Nat) (D : DataW Value) (n : Nm) : Prop := ∀ p, lk D p = (n p).map (ptrOf F)
/-- All files that names tell of are among the first so many. -/
def NmOK (c : Nat) (n : Nm) : Prop := ∀ p x, n p = some (some x) → x < c
def PaOK (c : Nat) (a : Pa) : Prop := a.kind < 3 ∧ a.p.size ≤ 1000 ∧ a.to.size ≤ 1000 ∧ ∀ x, a.f = some x → x < c
def Inj (F : Nat → Nat) (c : Nat) : Prop := ∀ x y, x < c → y < c → F x = F y → x = y
theorem ptr_inj {F : Nat → Nat} {c : Nat} (h : Inj F c) {a b : Option Nat} (ha : ∀ x, a = some x → x < c) (hb : ∀ x, b = some x → x < c) : ptrOf F a = ptrOf F b ↔ a = b := by
  cases a <;> cases b <;> simp [ptrOf]
  rename_i x y
  exact ⟨fun e => h x y (ha x rfl) (hb y rfl) e, fun e => by rw [e]⟩
theorem ptr_none {F : Nat → Nat} {a : Option Nat} : ptrOf F a = none ↔ a = none := by cases a <;> simp [ptrOf]
theorem key_inj {p q : ByteArray} (h : key p = key q) : p = q := by
  simp only [key, Lit.string.injEq] at h
  rw [← bs_data p, ← bs_data q, h]
section
variable {F : Nat → Nat} {D : DataW Value} {n : Nm}
theorem Nr.has (h : Nr F D n) (p : ByteArray) : Maps.has D (key p) = (n p).isSome := by
  have := h p
  unfold lk at this
  cases hh : Maps.has D (key p) <;> rw [hh] at this <;> cases hn : n p <;> rw [hn] at this <;> simp at this ⊢
theorem pv_absent {p : ByteArray} (h : Maps.has D (key p) = false) : pv D p = none := by
  have e : valAt D (key p) = .pointer none := by unfold valAt; rw [atKey_of_not_has h]; rfl
  unfold pv
  rw [e]
theorem Nr.pv (h : Nr F D n) (p : ByteArray) : Go.Proofs.YtknmmlfdlfioiaaGreatDoor.Vc.pv D p = ptrOf F (pvN n p) := by
  have h1 := h.has p
  have h2 := h p
  unfold lk at h2
  cases hn : n p with
  | none =>
    rw [hn] at h1
    simp at h1
    rw [pv_absent h1, pvN, hn]
    rfl
  | some v =>
    rw [hn] at h1 h2
    simp at h1
    rw [h1] at h2
    simp at h2
    rw [h2, pvN, hn]
theorem Nr.dir (h : Nr F D n) (p : ByteArray) : folderB D p (Go.Proofs.YtknmmlfdlfioiaaGreatDoor.Vc.pv D p) = isDir n p := by
  unfold folderB isDir
  rw [h.has p, h.pv p, pvN]
  cases hn : n p with
  | none => simp
  | some v => cases v <;> simp [ptrOf]
theorem Nr.kids (h : Nr F D n) (p : ByteArray) : NoKids D p ↔ NoKidsN n p := by
  constructor
  · intro hk q hq
    have := hk q.data.toList (by
      have := h.has q
      unfold key at this
      rw [this]
      cases hn : n q with
      | none => exact absurd hn hq
      | some _ => rfl)
    rw [bs_data] at this
    exact this
  · intro hk l hl
    refine hk (bs l) (fun e => ?_)
    have := h.has (bs l)
    unfold key at this
    rw [bs_list, hl, e] at this
    cases this
end
theorem isMap_of {w : World} {k : TypeId} {b n : Nat} {D : DataW Value} (h : w.ownsMap Tryz.prog k anyE b n D) : IsMap D := by
  obtain ⟨es, rfl, _⟩ := h.keysOf
  exact ⟨_, rfl⟩
theorem pv_put_same {D : DataW Value} (hD : IsMap D) (p : ByteArray) (a : Option Addr) : pv (D.put (key p) (.held (.pointer a))) p = a := by
  unfold pv valAt
  rw [atKey_put_same (k := key p) hD (isKey p.data.toList)]
  rfl
theorem pv_put_other {D : DataW Value} {p q : ByteArray} (h : q ≠ p) (v : Value) : pv (D.put (key p) (.held v)) q = pv D q := by
  unfold pv valAt
  rw [atKey_put_other (fun e => h (key_inj e))]
theorem pv_del_other {D : DataW Value} {p q : ByteArray} (h : q ≠ p) : pv (D.del (key p)) q = pv D q := by
  unfold pv valAt
  rw [atKey_del_other (fun e => h (key_inj e))]
theorem lk_put {D : DataW Value} (hD : IsMap D) (p : ByteArray) (a : Option Addr) (q : ByteArray) : lk (D.put (key p) (.held (.pointer a))) q = if q = p then some a else lk D q := by
  by_cases e : q = p
  · subst e
    rw [if_pos rfl, lk, has_put_same (k := key q) hD (isKey q.data.toList), if_pos rfl, pv_put_same hD]
  · rw [if_neg e, lk, lk, has_put_other (fun e' => e (key_inj e')), pv_put_other e]
theorem lk_del {D : DataW Value} (p q : ByteArray) : lk (D.del (key p)) q = if q = p then none else lk D q := by
  by_cases e : q = p
  · subst e
    rw [if_pos rfl, lk, has_del_same]
    rfl
  · rw [if_neg e, lk, lk, has_del_other (fun e' => e (key_inj e')), pv_del_other e]
section
variable {F : Nat → Nat} {D D' : DataW Value} {n : Nm}
def acOf (F : Nat → Nat) (a : Pa) : Ac := ⟨a.kind, a.p, a.to, ptrOf F a.f⟩
theorem Nr.comes (h : Nr F D n) (hD : IsMap D) (a : Pa) (hk : a.kind = 0) : Nr F (comesD D a.p (.pointer (ptrOf F a.f))) (doN n a) := by
  intro q
  have e1 : (Maps.has D (key a.p) = false ∧ folderB D (dirOf a.p) (Go.Proofs.YtknmmlfdlfioiaaGreatDoor.Vc.pv D (dirOf a.p)) = true) ↔ (n a.p = none ∧ isDir n (dirOf a.p) = true) := by
    rw [h.has, h.dir]
    cases n a.p <;> simp
  unfold comesD doN
  rw [if_pos hk]
  by_cases hc : n a.p = none ∧ isDir n (dirOf a.p) = true
  · rw [if_pos (e1.2 hc), if_pos hc, lk_put hD]
    by_cases e : q = a.p
    · simp [e]
    · rw [if_neg e, if_neg e, h q]
  · rw [if_neg (fun h' => hc (e1.1 h')), if_neg hc, h q]
theorem Nr.moves {c : Nat} (h : Nr F D n) (hD : IsMap D) (hi : Inj F c) (hn : NmOK c n) (a : Pa) (ha : PaOK c a) (hk : a.kind = 1) (hm : MovesTo D a.p a.to (ptrOf F a.f) D') : Nr F D' (doN n a) := by
  intro q
  have e0 : Go.Proofs.YtknmmlfdlfioiaaGreatDoor.Vc.pv D a.p = ptrOf F a.f ↔ pvN n a.p = a.f := by
    rw [h.pv]
    refine ptr_inj hi (fun x hx => ?_) ha.2.2.2
    unfold pvN at hx
    cases hq : n a.p with
    | none => rw [hq] at hx; cases hx
    | some v => rw [hq] at hx; subst hx; exact hn a.p x hq
  have e1 : (folderB D (dirOf a.to) (Go.Proofs.YtknmmlfdlfioiaaGreatDoor.Vc.pv D (dirOf a.to)) = true ∧ (folderB D a.to (Go.Proofs.YtknmmlfdlfioiaaGreatDoor.Vc.pv D a.to) = false ∨ NoKids D a.to)) ↔ (isDir n (dirOf a.to) = true ∧ (isDir n a.to = false ∨ NoKidsN n a.to)) := by
    rw [h.dir, h.dir, h.kids]
  unfold doN
  rw [if_neg (by omega), if_pos hk]
  rcases hm with ⟨hD', hm⟩ | ⟨rfl, hm⟩
  · rw [if_pos (e1.1 hm), hD']
    by_cases hf : pvN n a.p = a.f
    · rw [if_pos (e0.2 hf), lk_put (isMap_del hD _), lk_del]
      by_cases e : q = a.to
      · simp [e]
      · rw [if_neg e, if_neg e]
        by_cases e2 : q = a.p
        · rw [if_pos e2, if_pos ⟨e2, hf⟩]; rfl
        · rw [if_neg e2, if_neg (fun h' => e2 h'.1), h q]
    · rw [if_neg (fun h' => hf (e0.1 h')), lk_put hD]
      by_cases e : q = a.to
      · simp [e]
      · rw [if_neg e, if_neg e, if_neg (fun h' => hf h'.2), h q]
  · rw [if_neg (fun h' => hm (e1.2 h')), h q]
theorem Nr.goes {c : Nat} (h : Nr F D n) (hi : Inj F c) (hn : NmOK c n) (a : Pa) (ha : PaOK c a) (hk : a.kind = 2) (hm : GoesTo D a.p (ptrOf F a.f) D') : Nr F D' (doN n a) := by
  intro q
  have e0 : Go.Proofs.YtknmmlfdlfioiaaGreatDoor.Vc.pv D a.p = ptrOf F a.f ↔ pvN n a.p = a.f := by
    rw [h.pv]
    refine ptr_inj hi (fun x hx => ?_) ha.2.2.2
    unfold pvN at hx
    cases hq : n a.p with
    | none => rw [hq] at hx; cases hx
    | some v => rw [hq] at hx; subst hx; exact hn a.p x hq
  have e1 : (Maps.has D (key a.p) = true ∧ Go.Proofs.YtknmmlfdlfioiaaGreatDoor.Vc.pv D a.p = ptrOf F a.f ∧ (folderB D a.p (Go.Proofs.YtknmmlfdlfioiaaGreatDoor.Vc.pv D a.p) = false ∨ NoKids D a.p)) ↔ (n a.p ≠ none ∧ pvN n a.p = a.f ∧ (isDir n a.p = false ∨ NoKidsN n a.p)) := by
    rw [h.dir, h.kids, e0, h.has]
    cases n a.p <;> simp
  unfold doN
  rw [if_neg (by omega), if_neg (by omega)]
  rcases hm with ⟨hD', hm⟩ | ⟨rfl, hm⟩
  · rw [if_pos (e1.1 hm), hD', lk_del]
    by_cases e : q = a.p
    · rw [if_pos e, if_pos e]; rfl
    · rw [if_neg e, if_neg e, h q]
  · rw [if_neg (fun h' => hm (e1.2 h')), h q]
theorem Nr.does {c : Nat} (h : Nr F D n) (hD : IsMap D) (hi : Inj F c) (hn : NmOK c n) (a : Pa) (ha : PaOK c a) (hd : DoTo D (acOf F a) D') : Nr F D' (doN n a) := by
  rcases hd with ⟨hk, rfl⟩ | ⟨hk, hm⟩ | ⟨hk, hm⟩
  · exact h.comes hD a (by simpa [acOf] using hk)
  · exact h.moves hD hi hn a ha (by have : (a.kind : Int) = 1 := hk; omega) hm
  · exact h.goes hi hn a ha (by have : (a.kind : Int) = 2 := hk; omega) hm
theorem NmOK.does {c : Nat} (hn : NmOK c n) (a : Pa) (ha : PaOK c a) : NmOK c (doN n a) := by
  intro p x hx
  unfold doN at hx
  split at hx
  · split at hx
    · dsimp only at hx
      split at hx
      · injection hx with hx; exact ha.2.2.2 x hx
      · exact hn p x hx
    · exact hn p x hx
  · split at hx
    · split at hx
      · dsimp only at hx
        split at hx
        · injection hx with hx; exact ha.2.2.2 x hx
        · split at hx
          · cases hx
          · exact hn p x hx
      · exact hn p x hx
    · split at hx
      · dsimp only at hx
        split at hx
        · cases hx
        · exact hn p x hx
      · exact hn p x hx
theorem NmOK.mono {c c' : Nat} (h : NmOK c n) (hc : c ≤ c') : NmOK c' n := fun p x hx => Nat.lt_of_lt_of_le (h p x hx) hc
theorem PaOK.mono {c c' : Nat} {a : Pa} (h : PaOK c a) (hc : c ≤ c') : PaOK c' a := ⟨h.1, h.2.1, h.2.2.1, fun x hx => Nat.lt_of_lt_of_le (h.2.2.2 x hx) hc⟩
end
end Go.Proofs.YtknmmlfdlfioiaaGreatDoor.Vc
namespace Go.Proofs.YtknmmlfdlfioiaaGreatDoor.Vc
open Go.RowKit Go.Shelf Go.Maps
/-- A picture of folders and files. -/
structure Fs where
  now : Nm
  sure : Nm
  acts : List Pa
  files : Nat → Fl
  came : Nat
  used : Int
  room : Nat
  steps : Nat
/-- What may be touched by a call. -/
def Wide (A : Nat → Prop) (w : World) : Nat → Prop := fun g => A g ∨ w.heap.size ≤ g
/-- Maps and blocks that stand for a picture. -/
structure Laid (A : Nat → Prop) (w : World) (fb : Nat) (S : Fs) (D1 D2 D3 : DataW Value) (F : Nat → Nat) : Prop where
  nr1 : Nr F D1 S.now
  nr2 : Nr F D2 S.sure
  k1 : NamesOK A w fb (fun _ _ => True) D1
  k2 : NamesOK A w fb (fun _ _ => True) D2
  inj : Inj F S.came
  files : ∀ x, x < S.came → (∃ links, FileAt w (F x) x (S.files x).now (S.files x).sure links) ∧ fb ≠ F x ∧ (S.files x).now.size ≤ 100000000 ∧ (S.files x).sure.size ≤ 100000000 ∧ A (F x)
  m3 : IsMap D3
  uns : ∀ x : Int, Maps.has D3 (.int .i64 x) = true ↔ ∃ m : Nat, x = (m : Int) ∧ m < S.came ∧ (S.files m).now ≠ (S.files m).sure
  unv : ∀ m : Nat, Maps.has D3 (.int .i64 (m : Int)) = true → ∀ zd, D3.atKey (.int .i64 (m : Int)) zd = .held (.pointer (some ⟨F m, 0, none⟩))
/-- The block stands for the picture, power is there; b counts what was done; A are its blocks, all from n0 on. -/
structure Rep (pl : Value) (n0 : Nat) (A : Nat → Prop) (b : Nat) (w : World) (fb : Nat) (S : Fs) : Prop where
  max : MaxAt w
  z0 : 1 < n0
  nw : n0 ≤ w.heap.size
  lo : ∀ g, A g → n0 ≤ g
  inA : ∀ g, A g → g < w.heap.size
  cb : S.came ≤ b
  kb : S.acts.length ≤ b
  sb : S.steps ≤ b
  u1 : -(100000000 * (b : Int)) ≤ S.used
  u2 : S.used ≤ 100000000 * ((b * b + b : Nat) : Int)
  rb : S.room ≤ 1000000000000000
  o1 : NmOK S.came S.now
  o2 : NmOK S.came S.sure
  ao : ∀ a ∈ S.acts, PaOK S.came a
  laid : ∃ (b1 b2 b3 : Nat) (done : Value) (n1 n2 n3 : Nat) (D1 D2 D3 : DataW Value) (F : Nat → Nat), n1 ≤ b * b ∧ n2 ≤ b * b ∧ n3 ≤ b * b ∧ Sg pl (Wide A w) 0 w fb b1 b2 b3 done S.came S.used S.room S.steps n1 n2 n3 S.acts.length D1 D2 D3 (acsV (S.acts.map (acOf F))) ∧ Laid (Wide A w) w fb S D1 D2 D3 F
/-- What is of no concern to the whole is as it was. -/
structure Out (A : Nat → Prop) (w w' : World) : Prop where
  os : w'.os = w.os
  tape : w'.tape = w.tape
  output : w'.output = w.output
  size : w.heap.size ≤ w'.heap.size
  same : ∀ (g : Nat) (o : Obj), w.heap[g]? = some o → ¬ A g → w'.heap[g]? = some o
theorem Out.refl (A : Nat → Prop) (w : World) : Out A w w := ⟨rfl, rfl, rfl, Nat.le_refl _, fun _ _ h _ => h⟩
theorem Out.kept {A : Nat → Prop} {w w' : World} (h : Kept [] w w') : Out A w w' := ⟨h.os, h.tape, h.output, h.size, fun _ _ hg _ => h.fs hg (by simp)⟩
theorem Out.of_frm {A : Nat → Prop} {w w' : World} {fb : Nat} {xo : Nat → Prop} (h : Frm (Wide A w) fb xo w w') : Out A w w' :=
  ⟨h.os, h.tape, h.output, h.size, fun g o hg hn => h.fmap g o hg (fun h' => h'.elim hn (fun h'' => by have := block_lt hg; omega))⟩
/-- One behind the other: what comes later may touch what came between. -/
theorem Out.trans {A A2 : Nat → Prop} {a b c : World} (h : Out A a b) (k : Out A2 b c) (hA : ∀ g, A2 g → A g ∨ a.heap.size ≤ g) : Out A a c :=
  ⟨k.os.trans h.os, k.tape.trans h.tape, k.output.trans h.output, Nat.le_trans h.size k.size, fun g o h0 h2 => k.same g o (h.same g o h0 h2) (fun h' => (hA g h').elim h2 (fun h'' => by have := block_lt h0; omega))⟩
theorem Out.below {A : Nat → Prop} {n0 : Nat} {w w' : World} (h : Out A w w') (hn : n0 ≤ w.heap.size) (hA : ∀ g, A g → n0 ≤ g) : Below n0 w w' :=
  ⟨h.os, h.tape, h.output, h.size, fun k hk => by
    have hk' : k < w.heap.size := Nat.lt_of_lt_of_le hk hn
    have e : w.heap[k]? = some w.heap[k] := Array.getElem?_eq_getElem hk'
    rw [h.same k _ e (fun h' => by have := hA k h'; omega), e]⟩
/-- The whole stands for a picture behind a call. -/
def RepTo (pl : Value) (n0 : Nat) (A : Nat → Prop) (b : Nat) (w : World) (fb : Nat) (S : Fs) (w' : World) : Prop := ∃ A2 : Nat → Prop, (∀ g, A2 g → A g ∨ w.heap.size ≤ g) ∧ Rep pl n0 A2 b w' fb S ∧ Out A w w'
theorem RepTo.step {pl : Value} {n0 : Nat} {A A2 : Nat → Prop} {b : Nat} {w w1 w2 : World} {fb : Nat} {S : Fs} (hA : ∀ g, A2 g → A g ∨ w.heap.size ≤ g) (hO : Out A w w1) (k : RepTo pl n0 A2 b w1 fb S w2) : RepTo pl n0 A b w fb S w2 := by
  obtain ⟨A3, k1, k2, k3⟩ := k
  refine ⟨A3, fun g hg => ?_, k2, hO.trans k3 hA⟩
  rcases k1 g hg with e | e
  · exact hA g e
  · exact .inr (Nat.le_trans hO.size e)
theorem Sg.wider {pl : Value} {A A' : Nat → Prop} {B0 : Nat} {w : World} {fb b1 b2 b3 : Nat} {done : Value} {came : Nat} {used : Int} {room steps n1 n2 n3 k : Nat} {D1 D2 D3 : DataW Value} {xs : List Value} (h : Sg pl A B0 w fb b1 b2 b3 done came used room steps n1 n2 n3 k D1 D2 D3 xs) (hA : ∀ g, A g → A' g) : Sg pl A' B0 w fb b1 b2 b3 done came used room steps n1 n2 n3 k D1 D2 D3 xs :=
  ⟨h.fs, h.m1, h.m2, h.m3, h.row, h.d12, h.d13, h.d23, h.ba, hA _ h.a1, hA _ h.a2, hA _ h.a3, hA _ h.a0, fun g hg => hA _ (h.a4 g hg), fun g hg => hA _ (h.aw g hg)⟩
theorem VW.wider {A A' : Nat → Prop} {w : World} {fb : Nat} {kl : Lit} {v : Value} (h : VW A w fb kl v) (hA : ∀ g, A g → A' g) : VW A' w fb kl v := by
  obtain ⟨l, a, h1, h2, h3, h4⟩ := h
  refine ⟨l, a, h1, h2, h3, ?_⟩
  rcases h4 with h4 | ⟨xb, h4, h5, r⟩
  · exact .inl h4
  · exact .inr ⟨xb, h4, hA _ h5, r⟩
theorem Laid.wider {A A' : Nat → Prop} {w : World} {fb : Nat} {S : Fs} {D1 D2 D3 : DataW Value} {F : Nat → Nat} (h : Laid A w fb S D1 D2 D3 F) (hA : ∀ g, A g → A' g) : Laid A' w fb S D1 D2 D3 F :=
  ⟨h.nr1, h.nr2, h.k1.mono fun _ _ ⟨h1, h2⟩ => ⟨h1.wider hA, h2⟩, h.k2.mono fun _ _ ⟨h1, h2⟩ => ⟨h1.wider hA, h2⟩, h.inj, fun x hx => by
    obtain ⟨h1, h2, h3, h4, h5⟩ := h.files x hx
    exact ⟨h1, h2, h3, h4, hA _ h5⟩, h.m3, h.uns, h.unv⟩
theorem sq (b : Nat) : (b + 1) * (b + 1) = b * b + 2 * b + 1 := by
  rw [Nat.add_mul, Nat.mul_add]
  omega
theorem sq_lt {b : Nat} (h : b < 900) : b * b ≤ 810000 := Nat.le_trans (Nat.mul_le_mul (Nat.le_of_lt h) (Nat.le_of_lt h)) (by decide)
section
variable {pl : Value} {n0 : Nat} {A : Nat → Prop} {b : Nat} {w w' : World} {fb : Nat} {S S' : Fs}
/-- What a picture keeps to. -/
structure Fit (b : Nat) (S : Fs) : Prop where
  cb : S.came ≤ b
  kb : S.acts.length ≤ b
  sb : S.steps ≤ b
  u1 : -(100000000 * (b : Int)) ≤ S.used
  u2 : S.used ≤ 100000000 * ((b * b + b : Nat) : Int)
  rb : S.room ≤ 1000000000000000
  o1 : NmOK S.came S.now
  o2 : NmOK S.came S.sure
  ao : ∀ a ∈ S.acts, PaOK S.came a
theorem Rep.close {b' b1 b2 b3 n1 n2 n3 : Nat} {done : Value} {D1 D2 D3 : DataW Value} {F : Nat → Nat} (h : Rep pl n0 A b w fb S) (hf : Frm (Wide A w) fb NoX w w') (hS : Sg pl (Wide A w) 0 w' fb b1 b2 b3 done S'.came S'.used S'.room S'.steps n1 n2 n3 S'.acts.length D1 D2 D3 (acsV (S'.acts.map (acOf F)))) (hL : Laid (Wide A w) w' fb S' D1 D2 D3 F)
    (hF : Fit b' S') (e1 : n1 ≤ b' * b') (e2 : n2 ≤ b' * b') (e3 : n3 ≤ b' * b') : RepTo pl n0 A b' w fb S' w' := by
  have hO : Out A w w' := Out.of_frm hf
  have hA : ∀ g, Wide A w g → Wide (fun g => Wide A w g ∧ g < w'.heap.size) w' g := fun g hg => by
    by_cases hlt : g < w'.heap.size
    · exact .inl ⟨hg, hlt⟩
    · exact .inr (by omega)
  refine ⟨fun g => Wide A w g ∧ g < w'.heap.size, fun g h => h.1, ⟨h.max.base (hO.below h.nw h.lo) h.z0, h.z0, Nat.le_trans h.nw hO.size, fun g hg => hg.1.elim (h.lo g) (fun e => Nat.le_trans h.nw e), fun g h => h.2, hF.cb, hF.kb, hF.sb, hF.u1, hF.u2, hF.rb, hF.o1, hF.o2, hF.ao, b1, b2, b3, done, n1, n2, n3, D1, D2, D3, F, e1, e2, e3, hS.wider hA, hL.wider hA⟩, hO⟩
/-- A picture stays where its own blocks do. -/
theorem Rep.stay (h : Rep pl n0 A b w fb S) (hsz : w.heap.size ≤ w'.heap.size) (hm : MaxAt w') (hk : ∀ (g : Nat) (o : Obj), w.heap[g]? = some o → A g → w'.heap[g]? = some o) : Rep pl n0 A b w' fb S := by
  obtain ⟨b1, b2, b3, done, n1, n2, n3, D1, D2, D3, F, e1, e2, e3, hS, hL⟩ := h.laid
  have inn : ∀ {g : Nat} {o : Obj}, w.heap[g]? = some o → Wide A w g → A g := fun hg hw => hw.elim id (fun e => by have := block_lt hg; omega)
  have same : ∀ {g : Nat} {o : Obj}, w.heap[g]? = some o → Wide A w g → w'.heap[g]? = some o := fun hg hw => hk _ _ hg (inn hg hw)
  have up : ∀ {g : Nat} {o : Obj}, w.heap[g]? = some o → Wide A w g → Wide A w' g := fun hg hw => .inl (inn hg hw)
  have hmp : ∀ {kt : TypeId} {c q : Nat} {Dx : DataW Value}, Wide A w c → w.ownsMap Tryz.prog kt anyE c q Dx → w'.ownsMap Tryz.prog kt anyE c q Dx := by
    intro kt c q Dx hc hmx
    obtain ⟨es, cl, h1, r⟩ := hmx
    exact ⟨es, cl, same h1 hc, r⟩
  have mpb : ∀ {kt : TypeId} {c q : Nat} {Dx : DataW Value}, Wide A w c → w.ownsMap Tryz.prog kt anyE c q Dx → Wide A w' c := by
    intro kt c q Dx hc hmx
    obtain ⟨es, cl, h1, r⟩ := hmx
    exact up h1 hc
  have hfo : ∀ kl v, (VW (Wide A w) w fb kl v ∧ True) → (VW (Wide A w') w' fb kl v ∧ True) := by
    rintro kl v ⟨⟨l, a, h1, h2, h3, h4⟩, _⟩
    refine ⟨⟨l, a, h1, h2, h3, ?_⟩, trivial⟩
    rcases h4 with h4 | ⟨xb, h4, hAx, num, now, sure, links, hF, r⟩
    · exact .inl h4
    · exact .inr ⟨xb, h4, up hF hAx, num, now, sure, links, same hF hAx, r⟩
  refine ⟨hm, h.z0, Nat.le_trans h.nw hsz, h.lo, fun g hg => Nat.lt_of_lt_of_le (h.inA g hg) hsz, h.cb, h.kb, h.sb, h.u1, h.u2, h.rb, h.o1, h.o2, h.ao, b1, b2, b3, done, n1, n2, n3, D1, D2, D3, F, e1, e2, e3, ?_, ?_⟩
  · have ha4 := hS.a4
    refine ⟨same hS.fs hS.a0, hmp hS.a1 hS.m1, hmp hS.a2 hS.m2, hmp hS.a3 hS.m3, ⟨hS.row.1, ?_⟩, hS.d12, hS.d13, hS.d23, Nat.zero_le _, mpb hS.a1 hS.m1, mpb hS.a2 hS.m2, mpb hS.a3 hS.m3, up hS.fs hS.a0, ?_, fun _ hg => .inr hg⟩
    · rcases hS.row.2 with hr | ⟨g, cap, cur, e, hb, hg, r⟩
      · exact .inl hr
      · subst e
        exact .inr ⟨g, cap, cur, rfl, hb, same hg (ha4 g rfl), r⟩
    · intro g hg
      rcases hS.row.2 with ⟨e, _⟩ | ⟨g', cap, cur, e, hb, hg', r⟩
      · subst e; cases hg
      · subst e
        simp [Value.ownBlock] at hg
        subst hg
        exact up hg' (ha4 g' rfl)
  · exact ⟨hL.nr1, hL.nr2, hL.k1.mono hfo, hL.k2.mono hfo, hL.inj, fun x hx => by
      obtain ⟨⟨l, hF⟩, h1, h2, h3, h4⟩ := hL.files x hx
      exact ⟨⟨l, same hF h4⟩, h1, h2, h3, up hF h4⟩, hL.m3, hL.uns, hL.unv⟩
/-- A picture that is looked at: the same, whatever was made besides. -/
theorem Rep.keep (h : Rep pl n0 A b w fb S) (hk : Kept [] w w') : Rep pl n0 A b w' fb S :=
  h.stay hk.size (hk.max h.max (by simp)) (fun _ _ hg _ => hk.fs hg (by simp))
theorem Rep.toKept (h : Rep pl n0 A b w fb S) (hk : Kept [] w w') : RepTo pl n0 A b w fb S w' := ⟨A, fun _ hg => .inl hg, h.keep hk, Out.kept hk⟩
/-- Files that stay. -/
theorem Laid.keepF {A' : Nat → Prop} {D1 D2 D3 : DataW Value} {F : Nat → Nat} (h : Laid A' w fb S D1 D2 D3 F) (hf : Frm A' fb (fun _ => True) w w') : ∀ x, x < S.came → (∃ links, FileAt w' (F x) x (S.files x).now (S.files x).sure links) ∧ fb ≠ F x ∧ (S.files x).now.size ≤ 100000000 ∧ (S.files x).sure.size ≤ 100000000 ∧ A' (F x) := fun x hx => by
  obtain ⟨⟨l, hF⟩, r⟩ := h.files x hx
  exact ⟨hf.own (F x) x _ _ l trivial hF, r⟩
theorem VWof {A' : Nat → Prop} {p : ByteArray} (hp : p.size ≤ 1000) {f : Option Addr} (hf : PtrOK A' w fb f) : VW A' w fb (key p) (.pointer f) := ⟨_, f, rfl, by rw [str_len]; exact hp, rfl, hf⟩
theorem Laid.ptr {A' : Nat → Prop} {D1 D2 D3 : DataW Value} {F : Nat → Nat} (h : Laid A' w fb S D1 D2 D3 F) (hc : S.came < 1000000) {f : Option Nat} (hf : ∀ x, f = some x → x < S.came) : PtrOK A' w fb (ptrOf F f) := by
  cases f with
  | none => exact .inl rfl
  | some x =>
    have hx := hf x rfl
    obtain ⟨⟨l, hF⟩, h1, h2, h3, h4⟩ := h.files x hx
    exact .inr ⟨F x, rfl, h4, x, _, _, l, hF, h1, by omega, h2, h3⟩
/-- The whole as a call sees it. -/
theorem Rep.view (h : Rep pl n0 A b w fb S) (hc : Calm pl w S.steps) : ∃ (b1 b2 b3 : Nat) (done : Value) (n1 n2 n3 : Nat) (D1 D2 D3 : DataW Value) (F : Nat → Nat), n1 ≤ b * b ∧ n2 ≤ b * b ∧ n3 ≤ b * b ∧ Sg pl (Wide A w) 0 w fb b1 b2 b3 done S.came S.used S.room S.steps n1 n2 n3 S.acts.length D1 D2 D3 (acsV (S.acts.map (acOf F))) ∧ Laid (Wide A w) w fb S D1 D2 D3 F ∧ (∀ q, PtrOK (Wide A w) w fb (pv D1 q)) ∧
    View pl (Wide A w) 0 w fb (.map (some b1)) (.map (some b2)) (.map (some b3)) done S.came S.used S.room S.steps (b * b) S.acts.length D1 D2 D3 (acsV (S.acts.map (acOf F))) := by
  obtain ⟨b1, b2, b3, done, n1, n2, n3, D1, D2, D3, F, e1, e2, e3, hS, hL⟩ := h.laid
  obtain ⟨h1, h2, h3⟩ := hL.k1.wellP
  exact ⟨b1, b2, b3, done, n1, n2, n3, D1, D2, D3, F, e1, e2, e3, hS, hL, h3, view_some hS h1 h2 e1 e2 e3 hc⟩
theorem Rep.fit (h : Rep pl n0 A b w fb S) : Fit b S := ⟨h.cb, h.kb, h.sb, h.u1, h.u2, h.rb, h.o1, h.o2, h.ao⟩
end
end Go.Proofs.YtknmmlfdlfioiaaGreatDoor.Vc
namespace Go.Proofs.YtknmmlfdlfioiaaGreatDoor.Vc
open Go.RowKit Go.Shelf Go.Maps
def Fs.mkE (S : Fs) (p : ByteArray) : Int := if pathL p.data.toList then (if isDir S.now (dirOf p) then (if (S.now p).isSome then 32 else 0) else 2) else 30
open Classical in
noncomputable def Fs.rmE (S : Fs) (p : ByteArray) : Int := if pathL p.data.toList then (if (S.now p).isSome then (if isDir S.now p = false ∨ NoKidsN S.now p then 0 else 32) else 2) else 30
def Fs.rnE (S : Fs) (p to : ByteArray) : Int := if pathL p.data.toList = true ∧ pathL to.data.toList = true then (if (S.now p).isSome then (if (pvN S.now p).isSome then (if p.toList == to.toList then 1 else (if isDir S.now (dirOf to) then (if isDir S.now to then 31 else 0) else 2)) else 31) else 2) else 30
def Fs.syE (S : Fs) (p : ByteArray) : Int := if pathL p.data.toList then (if (S.now p).isSome then (if (pvN S.now p).isSome then 0 else 31) else 2) else 30
def Fs.wrN (S : Fs) (p : ByteArray) : Int := if pathL p.data.toList then (if isDir S.now (dirOf p) then (if isDir S.now p then 31 else 0) else 2) else 30
/-- Something is done to the names that are now. -/
noncomputable def Fs.enact (S : Fs) (a : Pa) : Fs := { S with now := doN S.now a, acts := S.acts ++ [a], steps := S.steps + 1 }
def updF (f : Nat → Fl) (x : Nat) (v : Fl) : Nat → Fl := fun y => if y = x then v else f y
theorem le_sq {b m : Nat} (h : m ≤ b * b + 1) : m ≤ (b + 1) * (b + 1) := by
  rw [sq]
  omega
theorem le_sq2 {b m k : Nat} (h : m ≤ b * b + k) (hk : k ≤ b) : m ≤ (b + 1) * (b + 1) := by
  rw [sq]
  omega
theorem ptr_some {F : Nat → Nat} {a : Option Nat} : (ptrOf F a).isSome = a.isSome := by cases a <;> rfl
section
variable {pl : Value} {n0 : Nat} {A : Nat → Prop} {b : Nat} {w w' : World} {fb : Nat} {S S' : Fs} {D1 D2 D3 : DataW Value} {F : Nat → Nat}
theorem mkE_eq (h : Nr F D1 S.now) (p : ByteArray) : mkE D1 p = S.mkE p := by rw [mkE, Fs.mkE, h.dir, h.has]
theorem rmE_eq (h : Nr F D1 S.now) (p : ByteArray) : rmE D1 p = S.rmE p := by
  unfold rmE Fs.rmE
  rw [h.dir, h.has, h.kids]
theorem rnE_eq (h : Nr F D1 S.now) (p to : ByteArray) : rnE D1 p to = S.rnE p to := by rw [rnE, Fs.rnE, h.dir, h.dir, h.has, h.pv, ptr_some]
theorem syE_eq (h : Nr F D1 S.now) (p : ByteArray) : syE D1 p = S.syE p := by rw [syE, Fs.syE, h.has, h.pv, ptr_some]
theorem wrN_eq (h : Nr F D1 S.now) (p : ByteArray) : wrN D1 p = S.wrN p := by rw [wrN, Fs.wrN, h.dir, h.dir]
theorem acs_snoc (F : Nat → Nat) (l : List Pa) (a : Pa) : acsV ((l ++ [a]).map (acOf F)) = acsV (l.map (acOf F)) ++ [.int .i64 (a.kind : Int), .string a.p, .string a.to, .pointer (ptrOf F a.f)] := by
  rw [List.map_append, acsV_append]
  rfl
theorem Rep.lim (h : Rep pl n0 A b w fb S) (hb : b < 899) : b * b < 900000 ∧ S.acts.length < 900000 ∧ S.steps < 900000 ∧ S.came < 900000 ∧ -1000000000000000 ≤ S.used ∧ S.used ≤ 1000000000000000 := by
  have h1 := sq_lt (b := b) (by omega)
  have h2 := h.kb
  have h3 := h.sb
  have h4 := h.cb
  have h5 := h.u1
  have h6 := h.u2
  refine ⟨by omega, by omega, by omega, by omega, by omega, ?_⟩
  have : ((b * b + b : Nat) : Int) ≤ 811000 := by omega
  omega
theorem Laid.enact {A' : Nat → Prop} (h : Laid A' w fb S D1 D2 D3 F) (hf : Frm A' fb (fun _ => True) w w') (a : Pa) (u : Int) {D : DataW Value} (hr : Nr F D (doN S.now a)) (hk : NamesOK A' w' fb (fun _ _ => True) D) : Laid A' w' fb { S.enact a with used := u } D D2 D3 F :=
  ⟨hr, h.nr2, hk, h.k2.frm hf, h.inj, h.keepF hf, h.m3, h.uns, h.unv⟩
theorem Fit.enact (h : Fit b S) (a : Pa) (ha : PaOK S.came a) (u : Int) (u1 : -(100000000 * ((b + 1 : Nat) : Int)) ≤ u) (u2 : u ≤ S.used) : Fit (b + 1) { S.enact a with used := u } := by
  have h1 := h.u2
  have e := sq b
  refine ⟨Nat.le_succ_of_le h.cb, ?_, Nat.succ_le_succ h.sb, u1, ?_, h.rb, h.o1.does a ha, h.o2, ?_⟩
  · show (S.acts ++ [a]).length ≤ b + 1
    rw [List.length_append]
    exact Nat.succ_le_succ h.kb
  · show u ≤ _
    have h2 : ((b * b + b : Nat) : Int) ≤ (((b + 1) * (b + 1) + (b + 1) : Nat) : Int) := by omega
    omega
  · intro c hc
    rcases List.mem_append.1 hc with hc | hc
    · exact h.ao c hc
    · simp at hc; subst hc; exact ha
theorem pvN_lt {c : Nat} {n : Nm} (h : NmOK c n) (p : ByteArray) : ∀ x, pvN n p = some x → x < c := fun x hx => by
  unfold pvN at hx
  cases hq : n p with
  | none => rw [hq] at hx; cases hx
  | some v => rw [hq] at hx; subst hx; exact h p x hq
/-- A call that may be refused. -/
def Ans (E : Int) (pl : Value) (n0 : Nat) (A : Nat → Prop) (b : Nat) (w : World) (fb : Nat) (P : Fs → Prop) (e : Ending) (w' : World) : Prop :=
  e = .returned (.int .i64 E) ∧ ((E ≠ 0 ∧ Kept [] w w') ∨ (E = 0 ∧ ∃ S', P S' ∧ RepTo pl n0 A (b + 1) w fb S' w'))
theorem ans_no {E : Int} {P : Fs → Prop} {e : Ending} (h : E ≠ 0 ∧ Refd E w e w') : Ans E pl n0 A b w fb P e w' := ⟨h.2.1, .inl ⟨h.1, h.2.2⟩⟩
theorem remove_rep (h : Rep pl n0 A b w fb S) (hb : b < 899) (hc : Calm pl w S.steps) (p : ByteArray) (hp : p.size ≤ 140737488355328) :
    Calls Tryz.prog 53 #[.pointer (some ⟨fb, 0, none⟩), .string p] w fun e w' => Ans (S.rmE p) pl n0 A b w fb (fun S' => ∃ u, u ≤ S.used ∧ S' = { S.enact ⟨2, p, ⟨#[]⟩, pvN S.now p⟩ with used := u }) e w' := by
  obtain ⟨b1, b2, b3, done, n1, n2, n3, D1, D2, D3, F, e1, e2, e3, hS, hL, hP, hV⟩ := h.view hc
  obtain ⟨l1, l2, l3, l4, l5, l6⟩ := h.lim hb
  rw [← rmE_eq hL.nr1 p]
  refine (remove_gen hV h.max p hp l2 l3 l5 l6 hP).mono fun e w' hr => ?_
  rcases hr with hr | ⟨hE, he, hpa, hh, c1, c2, c3, m1, m2, m3, done', u, D', q1, q2, q3, u1, u2, hg, hS', hf⟩
  · exact ans_no hr
  · have hps := path_size p hpa
    have hpo : PaOK S.came ⟨2, p, ⟨#[]⟩, pvN S.now p⟩ := ⟨by show 2 < 3; omega, by show p.size ≤ 1000; omega, by show 0 ≤ 1000; omega, pvN_lt h.o1 p⟩
    rw [hL.nr1.pv p] at hg hS'
    have hk : NamesOK (Wide A w) w' fb (fun _ _ => True) D' := (hL.k1.frm (hf NoX)).goes hg
    have hnr : Nr F D' (doN S.now ⟨2, p, ⟨#[]⟩, pvN S.now p⟩) := hL.nr1.goes hL.inj h.o1 ⟨2, p, ⟨#[]⟩, pvN S.now p⟩ hpo rfl hg
    have hL' := hL.enact (hf _) ⟨2, p, ⟨#[]⟩, pvN S.now p⟩ u hnr hk
    have hS2 : Sg pl (Wide A w) 0 w' fb c1 c2 c3 done' S.came u S.room (S.steps + 1) m1 m2 m3 (S.acts ++ [(⟨2, p, ⟨#[]⟩, pvN S.now p⟩ : Pa)]).length D' D2 D3 (acsV ((S.acts ++ [(⟨2, p, ⟨#[]⟩, pvN S.now p⟩ : Pa)]).map (acOf F))) := by
      rw [acs_snoc, List.length_append]
      exact hS'
    refine ⟨by rw [hE]; exact he, .inr ⟨hE, _, ⟨u, u1, rfl⟩, h.close (S' := { S.enact ⟨2, p, ⟨#[]⟩, pvN S.now p⟩ with used := u }) (hf NoX) hS2 hL' (h.fit.enact _ hpo _ (by have := h.u1; omega) u1) (le_sq (by omega)) (le_sq (by omega)) (le_sq (by omega))⟩⟩
theorem rename_rep (h : Rep pl n0 A b w fb S) (hb : b < 899) (hc : Calm pl w S.steps) (p to : ByteArray) (hp : p.size ≤ 140737488355328) (ht : to.size ≤ 140737488355328) :
    Calls Tryz.prog 42 #[.pointer (some ⟨fb, 0, none⟩), .string p, .string to] w fun e w' => Ans (S.rnE p to) pl n0 A b w fb (fun S' => ∃ u, u ≤ S.used ∧ S' = { S.enact ⟨1, p, to, pvN S.now p⟩ with used := u }) e w' := by
  obtain ⟨b1, b2, b3, done, n1, n2, n3, D1, D2, D3, F, e1, e2, e3, hS, hL, hP, hV⟩ := h.view hc
  obtain ⟨l1, l2, l3, l4, l5, l6⟩ := h.lim hb
  rw [← rnE_eq hL.nr1 p to]
  refine (rename_gen hV h.max p to hp ht l1 l2 l3 l5 l6 hP).mono fun e w' hr => ?_
  rcases hr with hr | ⟨hE, he, hok, c1, c2, c3, m1, m2, m3, done', u, D', q1, q2, q3, u1, u2, hg, hS', hf⟩
  · exact ans_no hr
  · have hps := path_size p hok.1
    have hts := path_size to hok.2.1
    have hpo : PaOK S.came ⟨1, p, to, pvN S.now p⟩ := ⟨by show 1 < 3; omega, by show p.size ≤ 1000; omega, by show to.size ≤ 1000; omega, pvN_lt h.o1 p⟩
    rw [hL.nr1.pv p] at hg hS'
    have hk : NamesOK (Wide A w) w' fb (fun _ _ => True) D' := (hL.k1.frm (hf NoX)).moves ⟨VWof (by omega) ((hL.ptr (by omega) (pvN_lt h.o1 p)).frm (hf NoX)), trivial⟩ hg
    have hnr : Nr F D' (doN S.now ⟨1, p, to, pvN S.now p⟩) := hL.nr1.moves hL.k1.isMap hL.inj h.o1 ⟨1, p, to, pvN S.now p⟩ hpo rfl hg
    have hL' := hL.enact (hf _) ⟨1, p, to, pvN S.now p⟩ u hnr hk
    have hS2 : Sg pl (Wide A w) 0 w' fb c1 c2 c3 done' S.came u S.room (S.steps + 1) m1 m2 m3 (S.acts ++ [(⟨1, p, to, pvN S.now p⟩ : Pa)]).length D' D2 D3 (acsV ((S.acts ++ [(⟨1, p, to, pvN S.now p⟩ : Pa)]).map (acOf F))) := by
      rw [acs_snoc, List.length_append]
      exact hS'
    refine ⟨by rw [hE]; exact he, .inr ⟨hE, _, ⟨u, u1, rfl⟩, h.close (S' := { S.enact ⟨1, p, to, pvN S.now p⟩ with used := u }) (hf NoX) hS2 hL' (h.fit.enact _ hpo _ (by have := h.u1; omega) u1) (le_sq (by omega)) (le_sq (by omega)) (le_sq (by omega))⟩⟩
/-- Read tells a file's bytes, or why there is none. -/
theorem read_rep (h : Rep pl n0 A b w fb S) (hc : Calm pl w S.steps) (p : ByteArray) (hp : p.size ≤ 140737488355328) :
    Calls Tryz.prog 32 #[.pointer (some ⟨fb, 0, none⟩), .string p] w fun e w' => Kept [] w w' ∧ ((S.syE p ≠ 0 ∧ e = .returned (.tuple #[.string ⟨#[]⟩, .int .i64 (S.syE p)])) ∨ (S.syE p = 0 ∧ ∃ x, S.now p = some (some x) ∧ x < S.came ∧ e = .returned (.tuple #[.string (S.files x).now, .int .i64 0]))) := by
  obtain ⟨b1, b2, b3, done, n1, n2, n3, D1, D2, D3, F, e1, e2, e3, hS, hL, hP, hV⟩ := h.view hc
  rw [← syE_eq hL.nr1 p]
  refine (read_gen hV h.max p hp hP).mono fun e w' hr => ?_
  rcases hr with ⟨hE, he, hk⟩ | ⟨hE, xb, num, now, sure, links, hv, hF, he, hk⟩
  · exact ⟨hk, .inl ⟨hE, he⟩⟩
  · refine ⟨hk, .inr ⟨hE, ?_⟩⟩
    rw [hL.nr1.pv p] at hv
    cases hx : pvN S.now p with
    | none => rw [hx] at hv; cases hv
    | some x =>
      rw [hx] at hv
      simp [ptrOf] at hv
      have hlt := pvN_lt h.o1 p x hx
      have hn : S.now p = some (some x) := by
        unfold pvN at hx
        cases hq : S.now p with
        | none => rw [hq] at hx; cases hx
        | some v => rw [hq] at hx; subst hx; rfl
      refine ⟨x, hn, hlt, ?_⟩
      obtain ⟨⟨l, hF2⟩, _⟩ := hL.files x hlt
      rw [← hv] at hF
      unfold FileAt at hF hF2
      rw [hF2] at hF
      simp only [Option.some.injEq, Obj.cells.injEq, filev] at hF
      have e3 := hF.1
      simp at e3
      rw [he, e3.2.1]
end
end Go.Proofs.YtknmmlfdlfioiaaGreatDoor.Vc
namespace Go.Proofs.YtknmmlfdlfioiaaGreatDoor.Vc
open Go.RowKit Go.Shelf Go.Maps
section
variable {pl : Value} {n0 : Nat} {A A' : Nat → Prop} {b : Nat} {w w' : World} {fb : Nat} {S S' : Fs} {D1 D2 D3 : DataW Value} {F : Nat → Nat}
theorem isKeyI (k : IntKind) (z : Int) : WideAt.IsKeyLit (.int k z) := trivial
theorem ba_eq {a s : ByteArray} : a = s ↔ a.data.toList = s.data.toList := ⟨fun h => by rw [h], fun h => by rw [← bs_data a, ← bs_data s, h]⟩
theorem int_ne {x y : Int} (h : x ≠ y) : Lit.int IntKind.i64 x ≠ Lit.int IntKind.i64 y := fun e => h (by injection e)
/-- The unsure ones behind a laying. -/
theorem lay_uns (hm : IsMap D3) (f : Nat → Fl) (c x : Nat) (hx : x < c) (xb : Nat) (a s : ByteArray) (hu : ∀ z : Int, Maps.has D3 (.int .i64 z) = true ↔ ∃ m : Nat, z = (m : Int) ∧ m < c ∧ (f m).now ≠ (f m).sure) (z : Int) :
    Maps.has (LayTo D3 x xb a s) (.int .i64 z) = true ↔ ∃ m : Nat, z = (m : Int) ∧ m < c ∧ (updF f x ⟨a, s⟩ m).now ≠ (updF f x ⟨a, s⟩ m).sure := by
  by_cases hz : z = (x : Int)
  · subst hz
    have h1 : (∃ m : Nat, (x : Int) = (m : Int) ∧ m < c ∧ (updF f x ⟨a, s⟩ m).now ≠ (updF f x ⟨a, s⟩ m).sure) ↔ a ≠ s := by
      constructor
      · rintro ⟨m, hm1, _, hm3⟩
        obtain rfl : x = m := by omega
        simpa [updF] using hm3
      · intro h
        exact ⟨x, rfl, hx, by simpa [updF] using h⟩
    rw [h1]
    unfold LayTo
    by_cases he : a.data.toList = s.data.toList
    · rw [if_pos he, has_del_same]
      simp [ba_eq.2 he]
    · rw [if_neg he, has_put_same hm (isKeyI _ _)]
      simp [ba_eq, he]
  · have h2 : Maps.has (LayTo D3 x xb a s) (.int .i64 z) = Maps.has D3 (.int .i64 z) := by
      unfold LayTo
      split
      · exact has_del_other (int_ne hz)
      · exact has_put_other (int_ne hz) _
    rw [h2, hu]
    constructor
    · rintro ⟨m, h3, h4, h5⟩
      exact ⟨m, h3, h4, by rw [updF, if_neg (fun e => hz (by rw [h3, e]))]; exact h5⟩
    · rintro ⟨m, h3, h4, h5⟩
      rw [updF, if_neg (fun e => hz (by rw [h3, e]))] at h5
      exact ⟨m, h3, h4, h5⟩
theorem lay_unv (hm : IsMap D3) (x : Nat) (a s : ByteArray) (hv : ∀ m : Nat, Maps.has D3 (.int .i64 (m : Int)) = true → ∀ zd, D3.atKey (.int .i64 (m : Int)) zd = .held (.pointer (some ⟨F m, 0, none⟩))) (m : Nat) (hh : Maps.has (LayTo D3 x (F x) a s) (.int .i64 (m : Int)) = true) (zd : DataW Value) : (LayTo D3 x (F x) a s).atKey (.int .i64 (m : Int)) zd = .held (.pointer (some ⟨F m, 0, none⟩)) := by
  by_cases hz : m = x
  · subst hz
    unfold LayTo at hh ⊢
    split at hh
    · rw [has_del_same] at hh; cases hh
    · rename_i he
      rw [if_neg he, atKey_put_same hm (isKeyI _ _)]
  · have hz' : (m : Int) ≠ (x : Int) := by omega
    unfold LayTo at hh ⊢
    split at hh
    · rename_i he
      rw [has_del_other (int_ne hz')] at hh
      rw [if_pos he, atKey_del_other (int_ne hz')]
      exact hv m hh zd
    · rename_i he
      rw [has_put_other (int_ne hz')] at hh
      rw [if_neg he, atKey_put_other (int_ne hz')]
      exact hv m hh zd
theorem isMap_lay (hm : IsMap D3) (x xb : Nat) (a s : ByteArray) : IsMap (LayTo D3 x xb a s) := by
  unfold LayTo
  split
  · exact isMap_del hm _
  · exact isMap_put hm _ _
/-- A file has other texts. -/
theorem Laid.file (h : Laid A' w fb S D1 D2 D3 F) (x : Nat) (hx : x < S.came) {a s : ByteArray} (ha : a.size ≤ 100000000) (hs : s.size ≤ 100000000) {l : Int} (hF : FileAt w' (F x) x a s l) (hf : ∀ xo : Nat → Prop, ¬ xo (F x) → Frm A' fb xo w w') (u : Int) (t : Nat) : Laid A' w' fb { S with files := updF S.files x ⟨a, s⟩, used := u, steps := t } D1 D2 (LayTo D3 x (F x) a s) F := by
  have hf0 := hf NoX (fun h => h)
  refine ⟨h.nr1, h.nr2, h.k1.frm hf0, h.k2.frm hf0, h.inj, fun y hy => ?_, isMap_lay h.m3 _ _ _ _, lay_uns h.m3 _ _ _ hx _ _ _ h.uns, lay_unv h.m3 _ _ _ h.unv⟩
  have hy' : y < S.came := hy
  obtain ⟨⟨l', hF'⟩, h1, h2, h3, h4⟩ := h.files y hy'
  show (∃ links, FileAt w' (F y) y (updF S.files x ⟨a, s⟩ y).now (updF S.files x ⟨a, s⟩ y).sure links) ∧ _ ∧ (updF S.files x ⟨a, s⟩ y).now.size ≤ _ ∧ (updF S.files x ⟨a, s⟩ y).sure.size ≤ _ ∧ _
  by_cases e : y = x
  · subst e
    simp only [updF, if_true]
    exact ⟨⟨l, hF⟩, h1, ha, hs, h4⟩
  · simp only [updF, if_neg e]
    have hne : F y ≠ F x := fun e' => e (h.inj y x hy' hx e')
    exact ⟨(hf (fun z => z ≠ F x) (fun h => h rfl)).own (F y) y _ _ l' hne hF', h1, h2, h3, h4⟩
theorem Fit.files (h : Fit b S) (f : Nat → Fl) (u : Int) (u1 : -(100000000 * ((b + 1 : Nat) : Int)) ≤ u) (u2 : u ≤ S.used + 100000000) : Fit (b + 1) { S with files := f, used := u, steps := S.steps + 1 } := by
  have h1 := h.u2
  have e := sq b
  refine ⟨Nat.le_succ_of_le h.cb, Nat.le_succ_of_le h.kb, Nat.succ_le_succ h.sb, u1, ?_, h.rb, h.o1, h.o2, h.ao⟩
  show u ≤ _
  have h2 : ((b * b + b : Nat) : Int) + 1 ≤ (((b + 1) * (b + 1) + (b + 1) : Nat) : Int) := by omega
  omega
theorem now_of_pv {n : Nm} {p : ByteArray} {x : Nat} (h : pvN n p = some x) : n p = some (some x) := by
  unfold pvN at h
  cases hq : n p with
  | none => rw [hq] at h; cases h
  | some v => rw [hq] at h; subst h; rfl
theorem file_is {xb y : Nat} {now sure : ByteArray} {l : Int} (hL : Laid A' w fb S D1 D2 D3 F) {x : Nat} (hx : x < S.came) (e : some (⟨xb, 0, none⟩ : Addr) = ptrOf F (some x)) (hF : FileAt w xb y now sure l) : xb = F x ∧ y = x ∧ now = (S.files x).now ∧ sure = (S.files x).sure := by
  simp [ptrOf] at e
  subst e
  obtain ⟨⟨l', hF'⟩, _⟩ := hL.files x hx
  unfold FileAt at hF hF'
  rw [hF'] at hF
  simp only [Option.some.injEq, Obj.cells.injEq, filev] at hF
  have e3 := hF.1
  simp at e3
  exact ⟨rfl, by omega, e3.2.1.symm, e3.2.2.1.symm⟩
theorem sync_rep (h : Rep pl n0 A b w fb S) (hb : b < 899) (hc : Calm pl w S.steps) (p : ByteArray) (hp : p.size ≤ 140737488355328) :
    Calls Tryz.prog 41 #[.pointer (some ⟨fb, 0, none⟩), .string p] w fun e w' => Ans (S.syE p) pl n0 A b w fb (fun S' => ∃ x, S.now p = some (some x) ∧ x < S.came ∧ S' = { S with files := updF S.files x ⟨(S.files x).now, (S.files x).now⟩, steps := S.steps + 1 }) e w' := by
  obtain ⟨b1, b2, b3, done, n1, n2, n3, D1, D2, D3, F, e1, e2, e3, hS, hL, hP, hV⟩ := h.view hc
  obtain ⟨l1, l2, l3, l4, l5, l6⟩ := h.lim hb
  rw [← syE_eq hL.nr1 p]
  refine (sync_gen hV h.max p hp l1 l3 hP).mono fun e w' hr => ?_
  rcases hr with hr | ⟨hE, he, hok, c1, c2, c3, m1, m2, m3, done', xb, num, now, sure, links, links', q1, q2, q3, hv, hF, hF', hS', hf⟩
  · exact ans_no hr
  · rw [hL.nr1.pv p] at hv
    cases hx : pvN S.now p with
    | none => rw [hx] at hv; cases hv
    | some x =>
      rw [hx] at hv
      have hlt := pvN_lt h.o1 p x hx
      obtain ⟨rfl, rfl, rfl, rfl⟩ := file_is hL hlt hv.symm hF
      obtain ⟨_, _, g1, _⟩ := hL.files num hlt
      have hL' := hL.file num hlt g1 g1 hF' hf S.used (S.steps + 1)
      refine ⟨by rw [hE]; exact he, .inr ⟨hE, _, ⟨num, now_of_pv hx, hlt, rfl⟩, h.close (S' := { S with files := updF S.files num ⟨(S.files num).now, (S.files num).now⟩, used := S.used, steps := S.steps + 1 }) (hf NoX (fun h => h)) hS' hL' (h.fit.files _ _ (by have := h.u1; omega) (by omega)) (le_sq (by omega)) (le_sq (by omega)) (le_sq (by omega))⟩⟩
/-- A file that is there has other bytes. -/
theorem write_old_rep (h : Rep pl n0 A b w fb S) (hb : b < 899) (hc : Calm pl w S.steps) (p s : ByteArray) (hp : p.size ≤ 140737488355328) (hs : s.size ≤ 100000000) (hE : S.wrN p = 0) {x : Nat} (hx : S.now p = some (some x)) :
    Calls Tryz.prog 40 #[.pointer (some ⟨fb, 0, none⟩), .string p, .string s] w fun e w' => (Full S.used S.room ((s.size : Int) - ((S.files x).now.size : Int)) ∧ e = .returned (.int .i64 33) ∧ Kept [] w w') ∨ (¬ Full S.used S.room ((s.size : Int) - ((S.files x).now.size : Int)) ∧ e = .returned (.int .i64 0) ∧ RepTo pl n0 A (b + 1) w fb { S with files := updF S.files x ⟨s, (S.files x).sure⟩, used := S.used + ((s.size : Int) - ((S.files x).now.size : Int)), steps := S.steps + 1 } w') := by
  obtain ⟨b1, b2, b3, done, n1, n2, n3, D1, D2, D3, F, e1, e2, e3, hS, hL, hP, hV⟩ := h.view hc
  obtain ⟨l1, l2, l3, l4, l5, l6⟩ := h.lim hb
  have hlt := h.o1 p x hx
  have hpv : pvN S.now p = some x := by unfold pvN; rw [hx]
  have hv : pv D1 p = some ⟨F x, 0, none⟩ := by rw [hL.nr1.pv p, hpv]; rfl
  rw [← wrN_eq hL.nr1 p] at hE
  have hw : pathL p.data.toList = true ∧ folderB D1 (dirOf p) (pv D1 (dirOf p)) = true ∧ folderB D1 p (pv D1 p) = false := by
    unfold wrN at hE
    split at hE
    · split at hE
      · split at hE
        · cases hE
        · rename_i h1 h2 h3
          exact ⟨h1, h2, by simpa using h3⟩
      · cases hE
    · cases hE
  obtain ⟨⟨l, hF⟩, g0, g1, g2, g3⟩ := hL.files x hlt
  refine (write_old hV h.max p s hp hs l1 l3 l5 l6 h.rb hw.1 hw.2.1 hw.2.2 (F x) hv hF g0 (by omega) g1 g2 g3).mono fun e w' hr => ?_
  rcases hr with ⟨hr1, hr2, hr3⟩ | ⟨hr1, he, hpa, c1, c2, c3, m1, m2, m3, done', xb, num, now, sure, links, u, q1, q2, q3, hu, hv2, hF2, hF', hS', hf⟩
  · exact .inl ⟨hr1, hr2, hr3⟩
  · have hv3 : some (⟨xb, 0, none⟩ : Addr) = ptrOf F (some x) := by rw [← hv2, hv]; rfl
    obtain ⟨rfl, rfl, rfl, rfl⟩ := file_is hL hlt hv3 hF2
    subst hu
    have hL' := hL.file num hlt hs g2 hF' hf (S.used + ((s.size : Int) - ((S.files num).now.size : Int))) (S.steps + 1)
    refine .inr ⟨hr1, he, h.close (S' := { S with files := updF S.files num ⟨s, (S.files num).sure⟩, used := S.used + ((s.size : Int) - ((S.files num).now.size : Int)), steps := S.steps + 1 }) (hf NoX (fun h => h)) hS' hL' (h.fit.files _ _ (by have := h.u1; omega) (by omega)) (le_sq (by omega)) (le_sq (by omega)) (le_sq (by omega))⟩
/-- What a Write of a new file leaves. -/
noncomputable def Fs.fresh (S : Fs) (p s : ByteArray) : Fs := { S with now := doN S.now ⟨0, p, ⟨#[]⟩, some S.came⟩, acts := S.acts ++ [⟨0, p, ⟨#[]⟩, some S.came⟩], files := updF S.files S.came ⟨s, ⟨#[]⟩⟩, came := S.came + 1, used := S.used + (s.size : Int), steps := S.steps + 1 }
theorem Nr.other {n : Nm} {D : DataW Value} {F' : Nat → Nat} {c : Nat} (h : Nr F D n) (hn : NmOK c n) (hF : ∀ x, x < c → F' x = F x) : Nr F' D n := fun p => by
  rw [h p]
  cases hq : n p with
  | none => rfl
  | some v =>
    cases v with
    | none => rfl
    | some x => simp [ptrOf, hF x (hn p x hq)]
theorem acs_other {F' : Nat → Nat} {c : Nat} {l : List Pa} (hl : ∀ a ∈ l, PaOK c a) (hF : ∀ x, x < c → F' x = F x) : l.map (acOf F') = l.map (acOf F) := by
  apply List.map_congr_left
  intro a ha
  unfold acOf
  cases hf : a.f with
  | none => rfl
  | some x => simp [ptrOf, hF x ((hl a ha).2.2.2 x hf)]
theorem write_new_rep (h : Rep pl n0 A b w fb S) (hb : b < 899) (hc : Calm pl w S.steps) (p s : ByteArray) (hp : p.size ≤ 140737488355328) (hs : s.size ≤ 100000000) (hE : S.wrN p = 0) (hx : S.now p = none) :
    Calls Tryz.prog 40 #[.pointer (some ⟨fb, 0, none⟩), .string p, .string s] w fun e w' => (Full S.used S.room (s.size : Int) ∧ e = .returned (.int .i64 33) ∧ Kept [] w w') ∨ (¬ Full S.used S.room (s.size : Int) ∧ e = .returned (.int .i64 0) ∧ RepTo pl n0 A (b + 1) w fb (S.fresh p s) w') := by
  obtain ⟨b1, b2, b3, done, n1, n2, n3, D1, D2, D3, F, e1, e2, e3, hS, hL, hP, hV⟩ := h.view hc
  obtain ⟨l1, l2, l3, l4, l5, l6⟩ := h.lim hb
  have hpv : pvN S.now p = none := by unfold pvN; rw [hx]
  have hv : pv D1 p = none := by rw [hL.nr1.pv p, hpv]; rfl
  rw [← wrN_eq hL.nr1 p] at hE
  have hw : pathL p.data.toList = true ∧ folderB D1 (dirOf p) (pv D1 (dirOf p)) = true ∧ folderB D1 p (pv D1 p) = false := by
    unfold wrN at hE
    split at hE
    · split at hE
      · split at hE
        · cases hE
        · rename_i h1 h2 h3
          exact ⟨h1, h2, by simpa using h3⟩
      · cases hE
    · cases hE
  refine (write_new hV h.max p s hp hs l1 l2 l3 l4 l5 l6 h.rb hw.1 hw.2.1 hw.2.2 hv).mono fun e w' hr => ?_
  rcases hr with ⟨hr1, hr2, hr3⟩ | ⟨hr1, he, hpa, hv2, c1, c2, c3, m1, m2, m3, done', xb, q1, q2, q3, hxb, hF', hfx, hS', hf⟩
  · exact .inl ⟨hr1, hr2, hr3⟩
  · have hps := path_size p hpa
    have hlo : ∀ y, y < S.came → F y < w.heap.size := fun y hy => by
      obtain ⟨⟨l, hF⟩, _⟩ := hL.files y hy
      exact block_lt hF
    obtain ⟨G, hG⟩ : ∃ G : Nat → Nat, G = fun y => if y = S.came then xb else F y := ⟨_, rfl⟩
    have G0 : G S.came = xb := by rw [hG]; simp
    have G1 : ∀ y, y < S.came → G y = F y := fun y hy => by rw [hG]; simp; omega
    have hfr : Frm (Wide A w) fb (fun x => x < w.heap.size) w w' := hf _ (fun x hx => hx)
    have hf0 : Frm (Wide A w) fb NoX w w' := hf NoX (fun x hx => hx.elim)
    have hpo : PaOK (S.came + 1) ⟨0, p, ⟨#[]⟩, some S.came⟩ := ⟨by show 0 < 3; omega, by show p.size ≤ 1000; omega, by show 0 ≤ 1000; omega, fun x hx => by injection hx with hx; omega⟩
    have ao' : ∀ a ∈ S.acts ++ [(⟨0, p, ⟨#[]⟩, some S.came⟩ : Pa)], PaOK (S.came + 1) a := fun a ha => by
      rcases List.mem_append.1 ha with ha | ha
      · exact (h.ao a ha).mono (by omega)
      · simp at ha; subst ha; exact hpo
    have hnr0 : Nr G D1 S.now := hL.nr1.other h.o1 G1
    have hA2 : Wide A w xb := .inr hxb
    have hok : FileOK (Wide A w) w' fb xb := ⟨hA2, S.came, s, ⟨#[]⟩, 1, hF', hfx, by omega, hs, by decide⟩
    have hk : NamesOK (Wide A w) w' fb (fun _ _ => True) (comesD D1 p (.pointer (some ⟨xb, 0, none⟩))) := (hL.k1.frm hf0).comes p ⟨VWof (by omega) (.inr ⟨xb, rfl, hok⟩), trivial⟩
    have hnr : Nr G (comesD D1 p (.pointer (some ⟨xb, 0, none⟩))) (doN S.now ⟨0, p, ⟨#[]⟩, some S.came⟩) := by
      have := hnr0.comes hL.k1.isMap ⟨0, p, ⟨#[]⟩, some S.came⟩ rfl
      simp only [ptrOf, G0] at this
      exact this
    have hLay : LayTo D3 S.came xb s ⟨#[]⟩ = LayTo D3 S.came (G S.came) s ⟨#[]⟩ := by rw [G0]
    have hunv : ∀ m : Nat, Maps.has D3 (.int .i64 (m : Int)) = true → ∀ zd, D3.atKey (.int .i64 (m : Int)) zd = .held (.pointer (some ⟨G m, 0, none⟩)) := fun m hm zd => by
      obtain ⟨m', e', hlt, _⟩ := (hL.uns m).1 hm
      obtain rfl : m = m' := by omega
      rw [G1 m hlt]
      exact hL.unv m hm zd
    have huns : ∀ z : Int, Maps.has D3 (.int .i64 z) = true ↔ ∃ m : Nat, z = (m : Int) ∧ m < S.came + 1 ∧ (updF S.files S.came ⟨⟨#[]⟩, ⟨#[]⟩⟩ m).now ≠ (updF S.files S.came ⟨⟨#[]⟩, ⟨#[]⟩⟩ m).sure := fun z => by
      rw [hL.uns z]
      constructor
      · rintro ⟨m, h1, h2, h3⟩
        exact ⟨m, h1, by omega, by rw [updF, if_neg (by omega)]; exact h3⟩
      · rintro ⟨m, h1, h2, h3⟩
        by_cases e : m = S.came
        · subst e; simp [updF] at h3
        · rw [updF, if_neg e] at h3
          exact ⟨m, h1, by omega, h3⟩
    have hupd : updF (updF S.files S.came ⟨⟨#[]⟩, ⟨#[]⟩⟩) S.came ⟨s, ⟨#[]⟩⟩ = updF S.files S.came ⟨s, ⟨#[]⟩⟩ := by
      funext y
      unfold updF
      split <;> rfl
    have hL' : Laid (Wide A w) w' fb (S.fresh p s) (comesD D1 p (.pointer (some ⟨xb, 0, none⟩))) D2 (LayTo D3 S.came (G S.came) s ⟨#[]⟩) G := by
      refine ⟨hnr, hL.nr2.other h.o2 G1, hk, hL.k2.frm hf0, ?_, ?_, isMap_lay hL.m3 _ _ _ _, ?_, lay_unv hL.m3 _ _ _ hunv⟩
      · intro x y hx hy hxy
        have hx' : x < S.came + 1 := hx
        have hy' : y < S.came + 1 := hy
        by_cases ex : x = S.came <;> by_cases ey : y = S.came
        · omega
        · rw [ex, G0, G1 y (by omega)] at hxy
          have := hlo y (by omega)
          omega
        · rw [ey, G0, G1 x (by omega)] at hxy
          have := hlo x (by omega)
          omega
        · rw [G1 x (by omega), G1 y (by omega)] at hxy
          exact hL.inj x y (by omega) (by omega) hxy
      · intro y hy
        have hy' : y < S.came + 1 := hy
        show (∃ links, FileAt w' (G y) y (updF S.files S.came ⟨s, ⟨#[]⟩⟩ y).now (updF S.files S.came ⟨s, ⟨#[]⟩⟩ y).sure links) ∧ fb ≠ G y ∧ (updF S.files S.came ⟨s, ⟨#[]⟩⟩ y).now.size ≤ 100000000 ∧ (updF S.files S.came ⟨s, ⟨#[]⟩⟩ y).sure.size ≤ 100000000 ∧ Wide A w (G y)
        by_cases e : y = S.came
        · subst e
          simp only [updF, if_true]
          rw [G0]
          exact ⟨⟨1, hF'⟩, hfx, hs, by decide, hA2⟩
        · obtain ⟨⟨l, hF⟩, g1, g2, g3, g4⟩ := hL.files y (by omega)
          simp only [updF, if_neg e]
          rw [G1 y (by omega)]
          exact ⟨hfr.own (F y) y _ _ l (block_lt hF) hF, g1, g2, g3, g4⟩
      · intro z
        have := lay_uns hL.m3 (updF S.files S.came ⟨⟨#[]⟩, ⟨#[]⟩⟩) (S.came + 1) S.came (by omega) (G S.came) s ⟨#[]⟩ huns z
        rw [hupd] at this
        exact this
    have e := sq b
    have hfit : Fit (b + 1) (S.fresh p s) := by
      have hF := h.fit
      have h1 := hF.u2
      have h2 := hF.u1
      refine ⟨Nat.succ_le_succ hF.cb, ?_, Nat.succ_le_succ hF.sb, ?_, ?_, hF.rb, ?_, hF.o2.mono (Nat.le_succ _), ao'⟩
      · show (S.acts ++ [_]).length ≤ b + 1
        rw [List.length_append]
        exact Nat.succ_le_succ hF.kb
      · show _ ≤ S.used + (s.size : Int)
        omega
      · show S.used + (s.size : Int) ≤ _
        have h3 : ((b * b + b : Nat) : Int) + 1 ≤ (((b + 1) * (b + 1) + (b + 1) : Nat) : Int) := by omega
        omega
      · exact (hF.o1.mono (Nat.le_succ _)).does _ hpo
    have hS2 : Sg pl (Wide A w) 0 w' fb c1 c2 c3 done' (S.fresh p s).came (S.fresh p s).used (S.fresh p s).room (S.fresh p s).steps m1 m2 m3 (S.fresh p s).acts.length (comesD D1 p (.pointer (some ⟨xb, 0, none⟩))) D2 (LayTo D3 S.came (G S.came) s ⟨#[]⟩) (acsV ((S.fresh p s).acts.map (acOf G))) := by
      show Sg pl (Wide A w) 0 w' fb c1 c2 c3 done' (S.came + 1) (S.used + (s.size : Int)) S.room (S.steps + 1) m1 m2 m3 (S.acts ++ [(⟨0, p, ⟨#[]⟩, some S.came⟩ : Pa)]).length _ D2 _ (acsV ((S.acts ++ [(⟨0, p, ⟨#[]⟩, some S.came⟩ : Pa)]).map (acOf G)))
      rw [acs_snoc, acs_other h.ao G1, List.length_append, ← hLay]
      simp only [ptrOf, G0]
      exact hS'
    exact .inr ⟨hr1, he, h.close hf0 hS2 hL' hfit (le_sq (by omega)) (le_sq (by omega)) (le_sq (by omega))⟩
theorem write_no_rep (h : Rep pl n0 A b w fb S) (hc : Calm pl w S.steps) (p s : ByteArray) (hp : p.size ≤ 140737488355328) (hE : S.wrN p ≠ 0) :
    Calls Tryz.prog 40 #[.pointer (some ⟨fb, 0, none⟩), .string p, .string s] w fun e w' => e = .returned (.int .i64 (S.wrN p)) ∧ Kept [] w w' := by
  obtain ⟨b1, b2, b3, done, n1, n2, n3, D1, D2, D3, F, e1, e2, e3, hS, hL, hP, hV⟩ := h.view hc
  rw [← wrN_eq hL.nr1 p] at hE ⊢
  exact (write_no hV h.max p s hp hE).mono fun _ _ hr => hr
end
end Go.Proofs.YtknmmlfdlfioiaaGreatDoor.Vc
namespace Go.Proofs.YtknmmlfdlfioiaaGreatDoor.Vc
open Go.RowKit Go.Shelf Go.Maps
def Fs.nfE (S : Fs) (q : ByteArray) : Int := if q.data.toList = [] then 0 else if pathL q.data.toList then (if isDir S.now q then 0 else 2) else 30
/-- Was it done in that folder? -/
def inP (q : ByteArray) (a : Pa) : Bool := inB (a.kind : Int) a.p a.to q
/-- What was done in a folder is sure. -/
noncomputable def Fs.syncDir (S : Fs) (q : ByteArray) : Fs := { S with sure := (S.acts.filter (inP q)).foldl doN S.sure, acts := S.acts.filter (fun a => !inP q a), steps := S.steps + 1 }
section
variable {pl : Value} {n0 : Nat} {A A' : Nat → Prop} {b : Nat} {w w' : World} {fb : Nat} {S S' : Fs} {D1 D2 D3 : DataW Value} {F : Nat → Nat}
theorem nfE_eq (h : Nr F D1 S.now) (p : ByteArray) : nfE D1 p = S.nfE p := by rw [nfE, Fs.nfE, h.dir]
theorem ins_map (q : ByteArray) (l : List Pa) : ins q (l.map (acOf F)) = (l.filter (inP q)).map (acOf F) := by
  unfold ins
  rw [List.filter_map]
  rfl
theorem outs_map (q : ByteArray) (l : List Pa) : outs q (l.map (acOf F)) = (l.filter (fun a => !inP q a)).map (acOf F) := by
  unfold outs
  rw [List.filter_map]
  rfl
theorem isMap_do {D D' : DataW Value} {a : Ac} (hD : IsMap D) (h : DoTo D a D') : IsMap D' := by
  rcases h with ⟨_, rfl⟩ | ⟨_, ⟨rfl, _⟩ | ⟨rfl, _⟩⟩ | ⟨_, ⟨rfl, _⟩ | ⟨rfl, _⟩⟩
  · unfold comesD
    split
    · exact isMap_put hD _ _
    · exact hD
  · refine isMap_put ?_ _ _
    split
    · exact isMap_del hD _
    · exact hD
  · exact hD
  · exact isMap_del hD _
  · exact hD
theorem Nr.doss {c : Nat} (hi : Inj F c) : ∀ {l : List Pa} {D D' : DataW Value} {n : Nm}, Nr F D n → IsMap D → NmOK c n → (∀ a ∈ l, PaOK c a) → Dos D (l.map (acOf F)) D' → Nr F D' (l.foldl doN n)
  | [], _, _, _, h, _, _, _, hd => by
    have hd' : _ = _ := hd
    subst hd'
    exact h
  | a :: t, D, D', n, h, hD, hn, hl, ⟨E, h1, h2⟩ => Nr.doss (l := t) (n := doN n a) hi (h.does hD hi hn a (hl a (by simp)) h1) (isMap_do hD h1) (hn.does a (hl a (by simp))) (fun x hx => hl x (List.mem_cons_of_mem _ hx)) h2
theorem NmOK.doss {c : Nat} : ∀ {l : List Pa} {n : Nm}, NmOK c n → (∀ a ∈ l, PaOK c a) → NmOK c (l.foldl doN n)
  | [], _, h, _ => h
  | a :: t, n, h, hl => NmOK.doss (l := t) (n := doN n a) (h.does a (hl a (by simp))) (fun x hx => hl x (List.mem_cons_of_mem _ hx))
theorem MOK.doss {V : Lit → Value → Prop} : ∀ {l : List Ac} {D D' : DataW Value}, MOK V D → (∀ a ∈ l, ActV V a) → Dos D l D' → MOK V D'
  | [], _, _, h, _, hd => by
    have hd' : _ = _ := hd
    subst hd'
    exact h
  | a :: t, _, _, h, ha, ⟨D1, h1, h2⟩ => (h.does (ha a (by simp)) h1).doss (fun b hb => ha b (List.mem_cons_of_mem _ hb)) h2
theorem acOK_of {c : Nat} {a : Pa} (h : PaOK c a) : AcOK (acOf F a) := by
  refine ⟨?_, h.2.1, h.2.2.1⟩
  have := h.1
  show ((a.kind : Int) = 0 ∨ (a.kind : Int) = 1 ∨ (a.kind : Int) = 2)
  omega
/-- All that was done is well. -/
theorem Laid.acts (hL : Laid A' w fb S D1 D2 D3 F) (hc : S.came < 1000000) (hao : ∀ a ∈ S.acts, PaOK S.came a) : ∀ a ∈ S.acts.map (acOf F), AcOK a ∧ PtrOK A' w fb a.f ∧ ∀ w', Frm A' fb NoX w w' → ActV (fun kl v => VW A' w' fb kl v ∧ True) a := by
  intro a ha
  obtain ⟨a0, h0, rfl⟩ := List.mem_map.1 ha
  have ho := hao a0 h0
  have hp := hL.ptr hc ho.2.2.2
  exact ⟨acOK_of ho, hp, fun w' hf => ⟨fun _ => ⟨VWof ho.2.1 (hp.frm hf), trivial⟩, fun _ => ⟨VWof ho.2.2.1 (hp.frm hf), trivial⟩⟩⟩
theorem noFolder_rep (h : Rep pl n0 A b w fb S) (hc : Calm pl w S.steps) (q : ByteArray) (hq : q.size ≤ 140737488355328) :
    Calls Tryz.prog 69 #[.pointer (some ⟨fb, 0, none⟩), .string q] w fun e w' => e = .returned (.int .i64 (S.nfE q)) ∧ Kept [] w w' := by
  obtain ⟨b1, b2, b3, done, n1, n2, n3, D1, D2, D3, F, e1, e2, e3, hS, hL, hP, hV⟩ := h.view hc
  rw [← nfE_eq hL.nr1 q]
  exact noFolder_view hV h.max q hq
theorem syncDir_rep (h : Rep pl n0 A b w fb S) (hb : b < 899) (hc : Calm pl w S.steps) (q : ByteArray) (hq : q.size ≤ 140737488355328) :
    Calls Tryz.prog 43 #[.pointer (some ⟨fb, 0, none⟩), .string q] w fun e w' => Ans (S.nfE q) pl n0 A b w fb (fun S' => S' = S.syncDir q) e w' := by
  have hno : ∀ X, Kept [] w X → Calls Tryz.prog 69 #[.pointer (some ⟨fb, 0, none⟩), .string q] X fun e w' => e = .returned (.int .i64 (S.nfE q)) ∧ Kept [] X w' := fun X hX => noFolder_rep (h.keep hX) (hc.keep hX) q hq
  obtain ⟨b1, b2, b3, done, n1, n2, n3, D1, D2, D3, F, e1, e2, e3, hS, hL, hP, hV⟩ := h.view hc
  obtain ⟨l1, l2, l3, l4, l5, l6⟩ := h.lim hb
  by_cases hE : S.nfE q = 0
  · rw [hE] at hno ⊢
    refine (syncDir_gen (E := fun _ _ => True) hV (by simp) l2 l1 l3 hL.k2 (hL.acts (by omega) h.ao) q hno).mono fun e w' hr => ?_
    obtain ⟨he, c1, c2, c3, m1, m2, m3, done', D2', q1, q2, q3, hd, hS', hf⟩ := hr
    rw [ins_map] at hd
    rw [outs_map] at hS'
    have hsub : ∀ a ∈ S.acts.filter (inP q), PaOK S.came a := fun a ha => h.ao a (List.mem_filter.1 ha).1
    have hsub2 : ∀ a ∈ S.acts.filter (fun a => !inP q a), PaOK S.came a := fun a ha => h.ao a (List.mem_filter.1 ha).1
    have hk2 : NamesOK (Wide A w) w' fb (fun _ _ => True) D2' := (hL.k2.frm (hf NoX)).doss (fun a ha => by
      obtain ⟨a0, h0, rfl⟩ := List.mem_map.1 ha
      exact (hL.acts (by omega) h.ao (acOf F a0) (List.mem_map.2 ⟨a0, (List.mem_filter.1 h0).1, rfl⟩)).2.2 w' (hf NoX)) hd
    have hL' : Laid (Wide A w) w' fb (S.syncDir q) D1 D2' D3 F := ⟨hL.nr1, hL.nr2.doss hL.inj hL.k2.isMap h.o2 hsub hd, hL.k1.frm (hf NoX), hk2, hL.inj, hL.keepF (hf _), hL.m3, hL.uns, hL.unv⟩
    have hF := h.fit
    have hfit : Fit (b + 1) (S.syncDir q) := by
      have h1 := hF.u2
      have e := sq b
      refine ⟨Nat.le_succ_of_le hF.cb, Nat.le_succ_of_le (Nat.le_trans (List.length_filter_le _ _) hF.kb), Nat.succ_le_succ hF.sb, ?_, ?_, hF.rb, hF.o1, hF.o2.doss hsub, hsub2⟩
      · show _ ≤ S.used
        have := hF.u1
        omega
      · show S.used ≤ _
        have h2 : ((b * b + b : Nat) : Int) ≤ (((b + 1) * (b + 1) + (b + 1) : Nat) : Int) := by omega
        omega
    rw [List.length_map] at hS'
    exact ⟨he, .inr ⟨rfl, _, rfl, h.close (hf NoX) hS' hL' hfit (le_sq (by omega)) (le_sq2 q2 h.kb) (le_sq (by omega))⟩⟩
  · have hE2 : S.nfE q = 2 ∨ S.nfE q = 30 := by
      have := nfE_cases D1 q
      rw [nfE_eq hL.nr1 q] at this
      rcases this with h' | h' | h'
      · exact absurd h' hE
      · exact .inl h'
      · exact .inr h'
    exact (syncDir_no w fb q (S.nfE q) hE2 hno).mono fun _ _ hr => ans_no ⟨hE, hr⟩
/-- A whole without power stands for a picture in which all is sure. -/
structure Dead (pl : Value) (n0 : Nat) (A : Nat → Prop) (b : Nat) (w : World) (fb : Nat) (S : Fs) : Prop where
  max : MaxAt w
  z0 : 1 < n0
  nw : n0 ≤ w.heap.size
  lo : ∀ g, A g → n0 ≤ g
  inA : ∀ g, A g → g < w.heap.size
  fit : Fit b S
  acts : S.acts = []
  laid : ∃ (nb b2 b3 n : Nat) (D : DataW Value) (F : Nat → Nat), n ≤ b * b ∧ FsAt w fb (.map (some nb)) (.map (some b2)) (.slice none 0 0) (.map (some b3)) S.came S.used S.room S.steps true pl ∧ NMap w nb n D ∧ NMap w b2 n D ∧ UMap w b3 0 (.map []) ∧ nb ≠ b2 ∧ nb ≠ b3 ∧ b2 ≠ b3 ∧ Wide A w nb ∧ Wide A w b2 ∧ Wide A w b3 ∧ Wide A w fb ∧ Laid (Wide A w) w fb S D D (.map []) F
/-- A picture behind a fall. -/
structure Fell (S S' : Fs) (keep : Int) : Prop where
  acts : S'.acts = []
  names : ∃ l' : List Pa, l'.Sublist S.acts ∧ (keep = 0 → l' = []) ∧ S'.now = l'.foldl doN S.sure ∧ S'.sure = S'.now
  came : S'.came = S.came
  room : S'.room = S.room
  steps : S'.steps = S.steps
  same : ∀ x, (S.files x).now = (S.files x).sure → S'.files x = S.files x
  tidy : ∀ x, (S'.files x).now = (S'.files x).sure
  used : ∀ (M : Nat) (L : List ByteArray), (∀ q, S'.now q ≠ none → q ∈ L) → (∀ q x, S'.now q = some (some x) → (S'.files x).now.size ≤ M) → S'.used ≤ (M : Int) * (L.length : Int)
theorem sub_map : ∀ {l : List Pa} {l' : List Ac}, l'.Sublist (l.map (acOf F)) → ∃ m : List Pa, m.Sublist l ∧ l' = m.map (acOf F)
  | [], l', h => by
    simp at h
    exact ⟨[], List.Sublist.refl _, by rw [h]; rfl⟩
  | a :: t, l', h => by
    rw [List.map_cons] at h
    cases h with
    | cons _ h' =>
      obtain ⟨m, h1, h2⟩ := sub_map h'
      exact ⟨m, h1.cons _, h2⟩
    | cons_cons _ h' =>
      obtain ⟨m, h1, h2⟩ := sub_map h'
      exact ⟨a :: m, h1.cons_cons _, by rw [h2]; rfl⟩
def DeadTo (pl : Value) (n0 : Nat) (A : Nat → Prop) (b : Nat) (w : World) (fb : Nat) (S : Fs) (w' : World) : Prop := ∃ A2 : Nat → Prop, (∀ g, A2 g → A g ∨ w.heap.size ≤ g) ∧ Dead pl n0 A2 b w' fb S ∧ Out A w w'
theorem str_of_keys {kl : Lit} {v : Value} (hv : keyOf Tryz.prog 9 v = some kl) : ∃ s : ByteArray, kl = key s := by
  obtain ⟨s, rfl⟩ := keyS_inv _ _ hv
  by_cases hs : s.size ≤ maxLen
  · rw [keyS s hs] at hv
    exact ⟨s, (Option.some.inj hv).symm⟩
  · rw [keyOf_string Tryz.underlying9] at hv
    simp [mapKey, Tryz.underlying9, hs] at hv
/-- A map of names has no more than there are names. -/
theorem size_names {D : DataW Value} {F : Nat → Nat} {n : Nm} {nb k : Nat} (h : Nr F D n) (hm : NMap w nb k D) {L : List ByteArray} (hL : ∀ q, n q ≠ none → q ∈ L) : Maps.size D ≤ L.length := by
  obtain ⟨E, rfl, hr, hlit⟩ := hm.canon kS
  obtain ⟨E', e', hko⟩ := hm.keysOf
  obtain rfl := DataW.map.inj e'
  have hn : (E.map (·.1)).Nodup := by
    rw [List.Nodup, List.pairwise_map]
    exact apart_of_rising hr
  have hs : Maps.size (DataW.map E) = (E.map (·.1)).length := by simp [Maps.size]
  have hlm : (L.map key).length = L.length := List.length_map ..
  rw [hs, ← hlm]
  refine hn.length_le_of_subset (fun x hx => ?_)
  obtain ⟨p, hp, rfl⟩ := List.mem_map.1 hx
  obtain ⟨v, hv⟩ := hko p hp
  obtain ⟨s, hs'⟩ := str_of_keys hv
  rw [hs']
  refine List.mem_map.2 ⟨s, hL s (fun e => ?_), rfl⟩
  have h1 := h.has s
  rw [e, has_eq, ← hs'] at h1
  have h2 : E.any (fun q => q.1.sameKey p.1) = true := List.any_eq_true.2 ⟨p, hp, WideAt.sameKey_self (hlit p hp)⟩
  rw [h2] at h1
  cases h1
theorem key_of_has {D : DataW Value} {nb k : Nat} (hm : NMap w nb k D) {kl : Lit} (hk : Maps.has D kl = true) : ∃ s : ByteArray, kl = key s := by
  obtain ⟨E, rfl, hko⟩ := hm.keysOf
  rw [has_eq, List.any_eq_true] at hk
  obtain ⟨p, hp, hs⟩ := hk
  have e := WideAt.sameKey_eq hs
  obtain ⟨v, hv⟩ := hko p hp
  obtain ⟨s, hs'⟩ := str_of_keys hv
  exact ⟨s, by first | rw [e]; exact hs' | rw [← e]; exact hs'⟩
theorem szM_of {D1 D2 D3 : DataW Value} {F : Nat → Nat} (hL : Laid A' w fb S D1 D2 D3 F) (hno : NmOK S.came S.now) {nb k : Nat} (hm : NMap w nb k D1) {M : Nat} (hM : ∀ q x, S.now q = some (some x) → (S.files x).now.size ≤ M) : SzM M w D1 := by
  intro kl xb hk hat num now sure links hF
  obtain ⟨s, rfl⟩ := key_of_has hm hk
  have h1 := hL.nr1 s
  have hp : pv D1 s = some ⟨xb, 0, none⟩ := by
    unfold pv valAt
    rw [hat]
    rfl
  rw [lk, if_pos hk, hp] at h1
  cases hn : S.now s with
  | none => rw [hn] at h1; cases h1
  | some v =>
    rw [hn] at h1
    cases v with
    | none => simp [ptrOf] at h1
    | some x =>
      simp [ptrOf] at h1
      subst h1
      obtain ⟨⟨l, hF2⟩, _⟩ := hL.files x (hno s x hn)
      unfold FileAt at hF hF2
      rw [hF2] at hF
      simp only [Option.some.injEq, Obj.cells.injEq, filev] at hF
      have e3 := hF.1
      simp at e3
      rw [← e3.2.1]
      exact hM s x hn
theorem crash_rep (h : Rep pl n0 A b w fb S) (hb : b < 899) (keep tn : Int) :
    Calls Tryz.prog 12 #[.pointer (some ⟨fb, 0, none⟩), .int .u64 keep, .int .i64 tn] w fun e w' => e = .returned (.tuple #[]) ∧ ∃ S', Fell S S' keep ∧ DeadTo pl n0 A (b + 1) w fb S' w' := by
  obtain ⟨b1, b2, b3, done, n1, n2, n3, D1, D2, D3, F, e1, e2, e3, hS, hL⟩ := h.laid
  obtain ⟨l1, l2, l3, l4, l5, l6⟩ := h.lim hb
  obtain ⟨xo, hxo⟩ : ∃ xo : Nat → Prop, xo = fun xb => ∀ x, x < S.came → F x = xb → (S.files x).now = (S.files x).sure := ⟨_, rfl⟩
  have hu : UOK (Wide A w) w fb xo D3 := fun x hx => by
    obtain ⟨m, rfl, hm, hne⟩ := (hL.uns x).1 hx
    obtain ⟨⟨l, hF⟩, g1, g2, g3, g4⟩ := hL.files m hm
    refine ⟨F m, hL.unv m hx, ⟨g4, m, _, _, l, hF, g1, by omega, g2, g3⟩, ?_⟩
    rw [hxo]
    exact fun h' => hne (h' m hm rfl)
  refine (crash_gen (E := fun _ _ => True) (xo := xo) hS (by simp) l2 (by omega) (by omega) hL.k2 (hL.acts (by omega) h.ao) hu keep tn).mono fun e w' hr => ?_
  obtain ⟨he, nb, n, D, l', u, hsub, hk0, hd, hn, hNO, u0, u1, u2, hfs, hm1, hm2, hm3, d12, d13, hnb, htd, hf⟩ := hr
  obtain ⟨m, hm4, rfl⟩ := sub_map hsub
  have hao : ∀ a ∈ m, PaOK S.came a := fun a ha => h.ao a (hm4.subset ha)
  have hnr := hL.nr2.doss hL.inj hL.k2.isMap h.o2 hao hd
  have hno := h.o2.doss hao
  have hT : ∀ x : Nat, ∃ t : ByteArray, x < S.came → (S.files x).now ≠ (S.files x).sure → (∃ l, FileAt w' (F x) x t t l) ∧ t.size ≤ 100000000 := fun x => by
    by_cases hx : x < S.came
    · by_cases hne : (S.files x).now = (S.files x).sure
      · exact ⟨⟨#[]⟩, fun _ h' => absurd hne h'⟩
      · have hh := (hL.uns x).2 ⟨x, rfl, hx, hne⟩
        obtain ⟨num, t, l, hF, ht⟩ := htd x hh (F x) (hL.unv x hh)
        obtain ⟨⟨l0, hF0⟩, _⟩ := hL.files x hx
        obtain ⟨a1, a2, a3, hF1⟩ := hf.nums (F x) x _ _ l0 hF0
        have hF2 := hF
        unfold FileAt at hF1 hF2
        rw [hF2] at hF1
        simp only [Option.some.injEq, Obj.cells.injEq, filev] at hF1
        have e3 := hF1.1
        simp at e3
        obtain rfl : num = x := by omega
        exact ⟨t, fun _ _ => ⟨⟨l, hF⟩, ht⟩⟩
    · exact ⟨⟨#[]⟩, fun h' => absurd h' hx⟩
  obtain ⟨T, hT⟩ := Classical.skolem.1 hT
  have hO : Out A w w' := Out.of_frm hf
  have hA : ∀ g, Wide A w g → Wide (fun g => Wide A w g ∧ g < w'.heap.size) w' g := fun g hg => by
    by_cases hlt : g < w'.heap.size
    · exact .inl ⟨hg, hlt⟩
    · exact .inr (by omega)
  classical
  obtain ⟨G, hG⟩ : ∃ G : Nat → Fl, G = fun x => if (S.files x).now = (S.files x).sure then S.files x else ⟨T x, T x⟩ := ⟨_, rfl⟩
  have hG1 : ∀ x, (S.files x).now = (S.files x).sure → G x = S.files x := fun x hx => by rw [hG]; simp [hx]
  have hG2 : ∀ x, (G x).now = (G x).sure := fun x => by
    rw [hG]
    by_cases hx : (S.files x).now = (S.files x).sure
    · simp [hx]
    · simp [hx]
  obtain ⟨S', hS'⟩ : ∃ S' : Fs, S' = { S with now := m.foldl doN S.sure, sure := m.foldl doN S.sure, acts := [], files := G, used := u } := ⟨_, rfl⟩
  have e := sq b
  have hfit : Fit (b + 1) S' := by
    rw [hS']
    have hF := h.fit
    refine ⟨Nat.le_succ_of_le hF.cb, Nat.zero_le _, Nat.le_succ_of_le hF.sb, ?_, ?_, hF.rb, hno, hno, fun a ha => by cases ha⟩
    · show _ ≤ u
      omega
    · show u ≤ _
      have h3 : (n : Int) ≤ (((b + 1) * (b + 1) + (b + 1) : Nat) : Int) := by have := hF.kb; omega
      omega
  have hL' : Laid (Wide A w) w' fb S' D D (.map []) F := by
    rw [hS']
    refine ⟨hnr, hnr, hNO, hNO, hL.inj, fun x hx => ?_, ⟨[], rfl⟩, fun z => ?_, fun z hz => by cases hz⟩
    · have hx' : x < S.came := hx
      obtain ⟨⟨l, hF⟩, g1, g2, g3, g4⟩ := hL.files x hx'
      show (∃ links, FileAt w' (F x) x (G x).now (G x).sure links) ∧ fb ≠ F x ∧ (G x).now.size ≤ 100000000 ∧ (G x).sure.size ≤ 100000000 ∧ Wide A w (F x)
      by_cases hne : (S.files x).now = (S.files x).sure
      · rw [hG1 x hne]
        refine ⟨hf.own (F x) x _ _ l ?_ hF, g1, g2, g3, g4⟩
        rw [hxo]
        intro y hy hyx
        obtain rfl := hL.inj y x hy hx' hyx
        exact hne
      · obtain ⟨h1, h2⟩ := hT x hx' hne
        have : G x = ⟨T x, T x⟩ := by rw [hG]; simp [hne]
        rw [this]
        exact ⟨h1, g1, h2, h2, g4⟩
    · constructor
      · intro hz; cases hz
      · rintro ⟨y, _, _, h3⟩
        exact absurd (hG2 y) h3
  have hused : ∀ (M : Nat) (L : List ByteArray), (∀ q, S'.now q ≠ none → q ∈ L) → (∀ q x, S'.now q = some (some x) → (S'.files x).now.size ≤ M) → S'.used ≤ (M : Int) * (L.length : Int) := fun M L hq hM => by
    have h1 := u2 M (szM_of hL' (by rw [hS']; exact hno) hm1 hM)
    have h2 := size_names hL'.nr1 hm1 hq
    have h3 : M * Maps.size D ≤ M * L.length := Nat.mul_le_mul_left M h2
    have h4 : ((M * Maps.size D : Nat) : Int) ≤ ((M * L.length : Nat) : Int) := by omega
    have e4 : S'.used = u := by rw [hS']
    rw [e4]
    simp at h4
    omega
  refine ⟨he, S', ⟨by rw [hS'], ⟨m, hm4, fun hk => by have := hk0 hk; simpa using this, by rw [hS'], by rw [hS']⟩, by rw [hS'], by rw [hS'], by rw [hS'], fun x hx => by rw [hS']; exact hG1 x hx, fun x => by rw [hS']; exact hG2 x, hused⟩, fun g => Wide A w g ∧ g < w'.heap.size, fun g h => h.1, ⟨h.max.base (hO.below h.nw h.lo) h.z0, h.z0, Nat.le_trans h.nw hO.size, fun g hg => hg.1.elim (h.lo g) (fun e => Nat.le_trans h.nw e), fun g h => h.2, hfit, by rw [hS'], nb, b2, b3, n, D, F, le_sq2 (k := S.acts.length) (by omega) h.kb, by rw [hS']; exact hfs, hm1, hm2, hm3, d12, d13, hS.d23, hA _ (.inr hnb), hA _ hS.a2, hA _ hS.a3, hA _ hS.a0, hL'.wider hA⟩, hO⟩
/-- Power again. -/
theorem up_rep (h : Dead pl n0 A b w fb S) :
    Calls Tryz.prog 13 #[.pointer (some ⟨fb, 0, none⟩)] w fun e w' => e = .returned (.bool true) ∧ RepTo pl n0 A b w fb S w' := by
  obtain ⟨nb, b2, b3, n, D, F, hn, hfs, hm1, hm2, hm3, d12, d13, d23, a1, a2, a3, a0, hL⟩ := h.laid
  refine (up_any hfs).mono fun e w' ⟨he, hfs', hk⟩ => ⟨he, ?_⟩
  have f1 := file_ne_map hfs hm1
  have f2 := file_ne_map hfs hm2
  have f3 := file_ne_map hfs hm3
  have hf : ∀ xo, Frm (Wide A w) fb xo w w' := fun xo => Frm.fs1 hk hfs a0
  have hS : Sg pl (Wide A w) 0 w' fb nb b2 b3 (.slice none 0 0) S.came S.used S.room S.steps n n 0 0 D D (.map []) [] :=
    ⟨hfs', hk.map hm1 (by simpa using fun e => f1 e.symm), hk.map hm2 (by simpa using fun e => f2 e.symm), hk.map hm3 (by simpa using fun e => f3 e.symm), ⟨rfl, .inl ⟨rfl, rfl⟩⟩, d12, d13, d23, Nat.zero_le _, a1, a2, a3, a0, (fun g hg => by cases hg), fun g hg => .inr (Nat.le_trans hk.size hg)⟩
  have hO : Out A w w' := Out.of_frm (hf NoX)
  have hA : ∀ g, Wide A w g → Wide (fun g => Wide A w g ∧ g < w'.heap.size) w' g := fun g hg => by
    by_cases hlt : g < w'.heap.size
    · exact .inl ⟨hg, hlt⟩
    · exact .inr (by omega)
  have hL' : Laid (Wide A w) w' fb S D D (.map []) F := ⟨hL.nr1, hL.nr2, hL.k1.frm (hf NoX), hL.k2.frm (hf NoX), hL.inj, hL.keepF (hf _), hL.m3, hL.uns, hL.unv⟩
  have hF := h.fit
  refine ⟨fun g => Wide A w g ∧ g < w'.heap.size, fun g h => h.1, ⟨h.max.base (hO.below h.nw h.lo) h.z0, h.z0, Nat.le_trans h.nw hO.size, fun g hg => hg.1.elim (h.lo g) (fun e => Nat.le_trans h.nw e), fun g h => h.2, hF.cb, hF.kb, hF.sb, hF.u1, hF.u2, hF.rb, hF.o1, hF.o2, hF.ao, nb, b2, b3, .slice none 0 0, n, n, 0, D, D, .map [], F, hn, hn, Nat.zero_le _, ?_, hL'.wider hA⟩, hO⟩
  rw [h.acts]
  exact hS.wider hA
end
end Go.Proofs.YtknmmlfdlfioiaaGreatDoor.Vc
namespace Go.Proofs.YtknmmlfdlfioiaaGreatDoor.Vc
open Go.RowKit Go.Shelf Go.Maps
section
variable {pl : Value} {n0 : Nat} {A A' : Nat → Prop} {b : Nat} {w w' : World} {fb : Nat} {S S' : Fs}
theorem Dead.fs (h : Dead pl n0 A b w fb S) : ∃ (nb : Nat) (sv uv : Value), FsAt w fb (.map (some nb)) sv (.slice none 0 0) uv S.came S.used S.room S.steps true pl := by
  obtain ⟨nb, b2, b3, n, D, F, hn, hfs, _⟩ := h.laid
  exact ⟨nb, _, _, hfs⟩
section
variable {nb : Nat} {sv dv uv : Value} {came used room steps : Int}
set_option maxHeartbeats 400000 in
set_option maxRecDepth 100000 in
theorem remove_off (h : FsAt w fb (.map (some nb)) sv dv uv came used room steps true pl) (p : ByteArray) :
    Calls Tryz.prog 53 #[.pointer (some ⟨fb, 0, none⟩), .string p] w fun e w' => e = .returned (.int .i64 7) ∧ Kept [] w w' := by
  have HH := hideIt (fun (v : Value) (X : World) (hX : Kept [] w X) => hindered_dead (hX.fs h (by simp)) v)
  clear h
  go_enter Tryz.func53, Tryz.ntmps53
  go_wp2_with (first | (go_at_call 54; refine (HH.out _ _ (Kept.alloc _ _)).mono ?_; rintro e w1 ⟨rfl, hw1⟩; obtain rfl := hw1.symm))
  go_ret
  exact ⟨rfl, Kept.alloc _ _⟩
set_option maxHeartbeats 400000 in
set_option maxRecDepth 100000 in
theorem read_off (h : FsAt w fb (.map (some nb)) sv dv uv came used room steps true pl) (p : ByteArray) :
    Calls Tryz.prog 32 #[.pointer (some ⟨fb, 0, none⟩), .string p] w fun e w' => e = .returned (.tuple #[.string ⟨#[]⟩, .int .i64 7]) ∧ Kept [] w w' := by
  have HH := hideIt (fun (v : Value) (X : World) (hX : Kept [] w X) => hindered_dead (hX.fs h (by simp)) v)
  clear h
  go_enter Tryz.func32, Tryz.ntmps32
  go_wp2_with (first | (go_at_call 54; refine (HH.out _ _ (Kept.alloc _ _)).mono ?_; rintro e w1 ⟨rfl, hw1⟩; obtain rfl := hw1.symm))
  go_ret2
  exact ⟨rfl, Kept.alloc _ _⟩
set_option maxHeartbeats 800000 in
set_option maxRecDepth 100000 in
theorem noFolder_off (h : FsAt w fb (.map (some nb)) sv dv uv came used room steps true pl) (p : ByteArray) (hp : p.size ≤ 140737488355328) :
    Calls Tryz.prog 69 #[.pointer (some ⟨fb, 0, none⟩), .string p] w fun e w' => e = .returned (.int .i64 7) ∧ Kept [] w w' := by
  have HH := hideIt (fun (v : Value) (X : World) (hX : Kept [] w X) => hindered_dead (hX.fs h (by simp)) v)
  clear h
  by_cases h0 : p.data.toList = []
  · obtain rfl : p = ⟨#[]⟩ := by rw [← bs_data p, h0]; rfl
    go_enter Tryz.func69, Tryz.ntmps69
    go_wp2_with (first | (go_at_call 54; refine (HH.out _ _ (Kept.refl _ _)).mono ?_; rintro e w1 ⟨rfl, hw1⟩; obtain rfl := hw1.symm))
    go_ret
    exact ⟨rfl, Kept.refl _ _⟩
  · have e1 : (p.toList == []) = false := by rw [ByteArray.toList_eq]; simpa using h0
    have e2 : p.toList.isEmpty = false := by rw [ByteArray.toList_eq]; simpa using h0
    have e3 : (p.toList != []) = true := by rw [ByteArray.toList_eq]; simpa using h0
    obtain ⟨i0, hi0, hz0, hz1, hz2⟩ := info_parts infoStr
    have own : w.ownsRow 0 9 1 (.slice none 0 0) 0 [] := ⟨rfl, .inl ⟨rfl, rfl⟩⟩
    go_enter Tryz.func69, Tryz.ntmps69
    go_wp2_with (first | (at_builtin; refine wpList_append_own _ rfl _ _ 123 rfl 0 9 i0 _ 1 16 Tryz.underlying123 hi0 hz0 hz1 hz2 rfl (by decide) _ _ _ rfl (own.alloc _) ⟨w.heap.size, 0, none⟩ 1 1 [.string p] rfl rfl (one_str p) (by intro u hu; simp at hu; subst hu; rfl) (by unfold maxLen; omega) (by omega) (Nat.zero_le _) ?_; intro v' w2 hown2 hg2 _; have hk2 : Kept [] w w2 := ((Kept.alloc _ _).trans (Kept.of_grown (r := none) hg2)).sub (by simp); obtain ⟨g, cap, rfl, g0⟩ := own_one hown2) | (go_at_call 54; refine (HH.out _ _ hk2).mono ?_; rintro e w3 ⟨rfl, hw3⟩; obtain rfl := hw3.symm))
    go_ret
    exact ⟨rfl, hk2⟩
end
variable {room : Nat}
/-- A new one. -/
def noFs (room : Nat) : Fs := ⟨fun _ => none, fun _ => none, [], fun _ => ⟨⟨#[]⟩, ⟨#[]⟩⟩, 0, 0, room, 0⟩
def NewAt (w : World) (fb room : Nat) : Prop := FsAt w fb (.map none) (.map none) (.slice none 0 0) (.map none) (0 : Nat) (0 : Int) room (0 : Nat) false (.slice none 0 0)
theorem nmap_nil : NamesOK A' w fb (fun _ _ => True) (.map []) := MOK.nothing _
theorem nr_nil (F : Nat → Nat) : Nr F (.map []) (fun _ => none) := fun _ => rfl
theorem NewAt.view (h : NewAt w fb room) (N : Nat) : View (.slice none 0 0) (Wide (fun g => g = fb) w) 0 w fb (.map none) (.map none) (.map none) (.slice none 0 0) 0 0 room 0 N 0 (.map []) (.map []) (.map []) [] :=
  view_nil h (Nat.zero_le _) (fun _ hg => .inr hg) (.inl rfl)
theorem noPtr : ∀ q, PtrOK A' w fb (pv (.map []) q) := fun _ => .inl rfl
theorem read_fresh (h : NewAt w fb room) (hm : MaxAt w) (p : ByteArray) (hp : p.size ≤ 140737488355328) (hpa : pathL p.data.toList = true) :
    Calls Tryz.prog 32 #[.pointer (some ⟨fb, 0, none⟩), .string p] w fun e w' => e = .returned (.tuple #[.string ⟨#[]⟩, .int .i64 2]) ∧ Kept [] w w' := by
  have e2 : syE (.map []) p = 2 := by rw [syE, if_pos hpa, has_nil]; rfl
  refine (read_gen (h.view 0) hm p hp noPtr).mono fun e w' hr => ?_
  rcases hr with ⟨_, he, hk⟩ | ⟨hE, _⟩
  · rw [e2] at he
    exact ⟨he, hk⟩
  · rw [e2] at hE
    cases hE
end
end Go.Proofs.YtknmmlfdlfioiaaGreatDoor.Vc
namespace Go.Proofs.YtknmmlfdlfioiaaGreatDoor.Vc
open Go.RowKit Go.Shelf Go.Maps
section
variable {pl : Value} {n0 : Nat} {A A' : Nat → Prop} {b : Nat} {w w' : World} {fb : Nat} {S S' : Fs} {room : Nat}
theorem ne_of_path {p : ByteArray} (h : pathL p.data.toList = true) : p.data.toList ≠ [] := fun e => by
  rw [e] at h
  revert h
  decide
/-- Its first file. -/
theorem write_fresh (h : NewAt w fb room) (hm : MaxAt w) (hr : room ≤ 1000000000000000) (hn : 1 < n0) (hf0 : n0 ≤ fb) (p s : ByteArray) (hp : p.size ≤ 140737488355328) (hs : s.size ≤ 100000000) (hpa : pathL p.data.toList = true) (hd : (dirOf p).data.toList = []) (hroom : s.size ≤ room) :
    Calls Tryz.prog 40 #[.pointer (some ⟨fb, 0, none⟩), .string p, .string s] w fun e w' => e = .returned (.int .i64 0) ∧ RepTo (.slice none 0 0) n0 (fun g => g = fb) 1 w fb ((noFs room).fresh p s) w' := by
  have hlt := block_lt h
  have hy : folderB (.map []) (dirOf p) (pv (.map []) (dirOf p)) = true := by rw [folderB, hd]; rfl
  have hx : folderB (.map []) p (pv (.map []) p) = false := by
    rw [folderB, has_nil]
    have := ne_of_path hpa
    simpa using this
  have hnf : ¬ Full 0 room (s.size : Int) := fun hF => by
    have := hF.1
    omega
  refine (write_new (h.view 0) hm p s hp hs (by decide) (by decide) (by decide) (by decide) (by decide) (by decide) hr hpa hy hx rfl).mono fun e w' hr' => ?_
  rcases hr' with ⟨hF, _⟩ | ⟨_, he, _, hv2, c1, c2, c3, m1, m2, m3, done', xb, q1, q2, q3, hxb, hF', hfx, hS', hf⟩
  · exact absurd hF hnf
  · refine ⟨he, ?_⟩
    have hps := path_size p hpa
    have hpo : PaOK 1 (⟨0, p, ⟨#[]⟩, some 0⟩ : Pa) := ⟨by show 0 < 3; omega, by show p.size ≤ 1000; omega, by show 0 ≤ 1000; omega, fun x hx => by injection hx with hx; omega⟩
    have hf0' : Frm (Wide (fun g => g = fb) w) fb NoX w w' := hf NoX (fun x hx => hx.elim)
    have hO : Out (fun g => g = fb) w w' := Out.of_frm hf0'
    have hlo : ∀ g, g = fb → n0 ≤ g := fun g hg => by omega
    have hA : ∀ g, Wide (fun g => g = fb) w g → Wide (fun g => Wide (fun g => g = fb) w g ∧ g < w'.heap.size) w' g := fun g hg => by
      by_cases hl : g < w'.heap.size
      · exact .inl ⟨hg, hl⟩
      · exact .inr (by omega)
    have hn0 : n0 ≤ w.heap.size := by omega
    have hA2 : Wide (fun g => g = fb) w xb := .inr hxb
    have hok : FileOK (Wide (fun g => g = fb) w) w' fb xb := ⟨hA2, 0, s, ⟨#[]⟩, 1, hF', hfx, by omega, hs, by decide⟩
    have hk : NamesOK (Wide (fun g => g = fb) w) w' fb (fun _ _ => True) (comesD (.map []) p (.pointer (some ⟨xb, 0, none⟩))) := nmap_nil.comes p ⟨VWof (by omega) (.inr ⟨xb, rfl, hok⟩), trivial⟩
    have hnr : Nr (fun _ => xb) (comesD (.map []) p (.pointer (some ⟨xb, 0, none⟩))) (doN (noFs room).now ⟨0, p, ⟨#[]⟩, some 0⟩) := (nr_nil (fun _ => xb)).comes ⟨[], rfl⟩ ⟨0, p, ⟨#[]⟩, some 0⟩ rfl
    have huns : ∀ z : Int, Maps.has (LayTo (.map []) 0 xb s ⟨#[]⟩) (.int .i64 z) = true ↔ ∃ m : Nat, z = (m : Int) ∧ m < 1 ∧ (updF (noFs room).files 0 ⟨s, ⟨#[]⟩⟩ m).now ≠ (updF (noFs room).files 0 ⟨s, ⟨#[]⟩⟩ m).sure :=
      fun z => lay_uns ⟨[], rfl⟩ (noFs room).files 1 0 (by omega) xb s ⟨#[]⟩ (fun z => ⟨fun hz => (by cases hz), fun ⟨m, _, _, hm⟩ => absurd rfl hm⟩) z
    have hL : Laid (Wide (fun g => g = fb) w) w' fb ((noFs room).fresh p s) (comesD (.map []) p (.pointer (some ⟨xb, 0, none⟩))) (.map []) (LayTo (.map []) 0 xb s ⟨#[]⟩) (fun _ => xb) := by
      refine ⟨hnr, nr_nil _, hk, nmap_nil, fun x y hx hy _ => ?_, fun x hx => ?_, isMap_lay ⟨[], rfl⟩ _ _ _ _, huns, lay_unv (F := fun _ => xb) ⟨[], rfl⟩ 0 s ⟨#[]⟩ (fun m hm => (by cases hm))⟩
      · have hx' : x < 0 + 1 := hx
        have hy' : y < 0 + 1 := hy
        omega
      · have hx' : x < 0 + 1 := hx
        obtain rfl : x = 0 := by omega
        exact ⟨⟨1, hF'⟩, hfx, hs, by show 0 ≤ 100000000; omega, hA2⟩
    refine ⟨fun g => Wide (fun g => g = fb) w g ∧ g < w'.heap.size, fun g h => h.1, ⟨hm.base (hO.below hn0 hlo) hn, hn, Nat.le_trans hn0 hO.size, fun g hg => hg.1.elim (hlo g) (fun e => Nat.le_trans hn0 e), fun g h => h.2, Nat.le_refl _, Nat.le_refl _, Nat.le_refl _, ?_, ?_, hr, ?_, fun _ _ hx => (by cases hx), ?_, c1, c2, c3, done', m1, m2, m3, _, _, _, fun _ => xb, by omega, by omega, by omega, ?_, hL.wider hA⟩, hO⟩
    · show -(100000000 * ((1 : Nat) : Int)) ≤ 0 + (s.size : Int)
      omega
    · show 0 + (s.size : Int) ≤ 100000000 * ((1 * 1 + 1 : Nat) : Int)
      omega
    · exact NmOK.does (c := 1) (n := fun _ => none) (fun _ _ hx => by cases hx) _ hpo
    · intro a ha
      have ha' : a ∈ [(⟨0, p, ⟨#[]⟩, some 0⟩ : Pa)] := ha
      simp at ha'
      subst ha'
      exact hpo
    · exact hS'.wider hA
theorem remove_fresh (h : NewAt w fb room) (hm : MaxAt w) (p : ByteArray) (hp : p.size ≤ 140737488355328) (hpa : pathL p.data.toList = true) :
    Calls Tryz.prog 53 #[.pointer (some ⟨fb, 0, none⟩), .string p] w fun e w' => e = .returned (.int .i64 2) ∧ Kept [] w w' := by
  have e2 : rmE (.map []) p = 2 := by rw [rmE, if_pos hpa, has_nil]; rfl
  refine (remove_gen (h.view 0) hm p hp (by decide) (by decide) (by decide) (by decide) noPtr).mono fun e w' hr => ?_
  rcases hr with ⟨_, he, hk⟩ | ⟨hE, _⟩
  · rw [e2] at he
    exact ⟨he, hk⟩
  · rw [e2] at hE
    cases hE
/-- A new one without power. -/
def GoneAt (w : World) (fb room : Nat) : Prop := FsAt w fb (.map none) (.map none) (.slice none 0 0) (.map none) (0 : Nat) (0 : Int) room (0 : Nat) true (.slice none 0 0)
theorem up_fresh (h : GoneAt w fb room) : Calls Tryz.prog 13 #[.pointer (some ⟨fb, 0, none⟩)] w fun e w' => e = .returned (.bool true) ∧ NewAt w' fb room ∧ Kept [fb] w w' := up_any h
/-- A fall where nothing was done. -/
theorem sorted_nil (W : World) (pb : Nat) (hc : W.cell? ⟨pb, 0, none⟩ = some (.map none)) (hlt : pb < W.heap.size) :
    Calls Tryz.prog 26 #[.func (.func 51) #[] #[.pointer (some ⟨pb, 0, none⟩)]] W fun e w' => ∃ (a : Option Addr) (c : Nat), e = .returned (.slice a 0 c) ∧ Kept [] W w' := by
  have hseq : SeqGives Fence.wide 2 Tryz.prog 51 #[.pointer (some ⟨pb, 0, none⟩)] encZ (fun ss => ss = []) 0 W :=
    AnyZI.keys_gives_nil (ρ := Tryz.keysI_ren) { Tryz.keysI with } Fence.wide _ trivial rfl pb _ hlt hc
  have cS := AnyZI.sorted_in Tryz.sortedI Fence.wide 5 trivial trivial trivial trivial rfl (by omega) (sorts_in _) (enters_of Tryz.func50 (by kernel_rfl) rfl) 51 #[.pointer (some ⟨pb, 0, none⟩)] trivial (enters_of Tryz.func51 (by kernel_rfl) rfl) _ _ (by unfold maxLen; omega) (by omega) _ hseq
  refine ((callsIn_wide (n := 5)).1 cS).mono fun e w' ⟨v, ss, he, hS, hrow, hnil, hb⟩ => ?_
  subst hS
  rcases hrow.2 with ⟨e1, _⟩ | ⟨g, cap, cur, e1, _⟩
  · exact ⟨none, 0, by rw [he, e1], Kept.of_below hb⟩
  · exact ⟨_, _, by rw [he, e1]; rfl, Kept.of_below hb⟩
set_option maxHeartbeats 400000 in
set_option maxRecDepth 100000 in
theorem clone_nil (w : World) : Calls Tryz.prog 29 #[.map none] w fun e w' => e = .returned (.map none) ∧ w' = w := by
  have hq := fun w => map_eql 50 _ _ Tryz.underlying50 none w
  go_enter Tryz.func29, Tryz.ntmps29
  go_wp2
  go_ret
  exact ⟨rfl, rfl⟩
set_option maxHeartbeats 800000 in
set_option maxRecDepth 100000 in
theorem count_nil {sv dv uv : Value} {came used room steps : Int} {dead : Bool} (h : FsAt w fb (.map none) sv dv uv came used room steps dead pl) :
    Calls Tryz.prog 30 #[.pointer (some ⟨fb, 0, none⟩)] w fun e w' => e = .returned (.tuple #[]) ∧ FsAt w' fb (.map none) sv dv uv came 0 room steps dead pl ∧ Kept [fb] w w' := by
  have c0 := fs0 h
  have hk1 : Kept [] w (w.alloc (.mapIter none 0 #[] 0)) := Kept.alloc _ _
  have h1 := hk1.fs h (by simp)
  have c5 := fs5 h1
  have c5f := thawAt h1 5
  have hk2 : Kept [fb] w ((w.alloc (.mapIter none 0 #[] 0)).setCell ⟨fb, 5, none⟩ (.int .i64 0)) := (hk1.trans (Kept.set fb 5 _)).sub (by simp)
  have h2 : FsAt ((w.alloc (.mapIter none 0 #[] 0)).setCell ⟨fb, 5, none⟩ (.int .i64 0)) fb (.map none) sv dv uv came 0 room steps dead pl := by
    unfold FsAt
    rw [heap_setCell_same _ fb 5 _ 54 _ h1]
    rfl
  have d0 := fs0 h2
  have HH2 := hideIt h2
  have HK2 := hideIt hk2
  have hrn := run_range_nilMap (P := Tryz.prog) w 50 _ _ Tryz.underlying50
  have hnn := fun ty => run_next_nilMap (P := Tryz.prog) w ty 0 0 #[]
  have hrn2 := run_range_nilMap (P := Tryz.prog) ((w.alloc (.mapIter none 0 #[] 0)).setCell ⟨fb, 5, none⟩ (.int .i64 0)) 50 _ _ Tryz.underlying50
  have hnn2 := fun ty => run_next_nilMap (P := Tryz.prog) ((w.alloc (.mapIter none 0 #[] 0)).setCell ⟨fb, 5, none⟩ (.int .i64 0)) ty 0 0 #[]
  have hsz : ((w.alloc (.mapIter none 0 #[] 0)).setCell ⟨fb, 5, none⟩ (.int .i64 0)).heap.size = w.heap.size + 1 := by simp [World.setCell]
  rw [hsz] at hnn2 hrn2
  clear h h1 h2 hk1 hk2
  go_enter Tryz.func30, Tryz.ntmps30
  go_wp2
  refine wp_loop_rounds 1 ?_
  rw [rounds_succ]
  go_wp2
  refine wp_loop_rounds 1 ?_
  rw [rounds_succ]
  go_wp2
  exact bodyPost_end (results_none Tryz.results30 _ _ _) rfl ⟨rfl, (Kept.alloc _ _).fs HH2.out (by simp), (HK2.out.trans (Kept.alloc _ _)).sub (by simp)⟩
theorem clear_none (ty : TypeId) (w : World) : (Builtin.clear_ #[52] ty #[.map none]).run Tryz.prog w = .ok (.tuple #[]) w := by
  simp [Builtin.clear_, run_underlying Tryz.underlying52, Result.andThen]
set_option maxHeartbeats 1600000 in
set_option maxRecDepth 100000 in
theorem crash_fresh (h : NewAt w fb room) (keep tn : Int) :
    Calls Tryz.prog 12 #[.pointer (some ⟨fb, 0, none⟩), .int .u64 keep, .int .i64 tn] w fun e w' => e = .returned (.tuple #[]) ∧ GoneAt w' fb room ∧ Kept [fb] w w' := by
  obtain ⟨W, hW⟩ : ∃ W, w.alloc (.cells #[.int .u64 keep] 30) = W := ⟨_, rfl⟩
  have hkW : Kept [] w W := by rw [← hW]; exact Kept.alloc _ _
  have hfW := hkW.fs h (by simp)
  have HD : Hid (Calls Tryz.prog 8 #[.pointer (some ⟨fb, 0, none⟩)] W fun e w' => e = .returned (.bool false) ∧ W = w') := hideIt ((dead_any hfW).mono fun _ _ h => ⟨h.1, h.2.symm⟩)
  have e2 := fs2 hfW
  have e3 := fs3 hfW
  have de := kept_enters
  have HX : Hid (Calls Tryz.prog 26 #[.func (.func 51) #[] #[.pointer (some ⟨W.heap.size, 0, none⟩)]] (W.alloc (.cells #[.map none] 52)) fun e w' => ∃ (a : Option Addr) (c : Nat), e = .returned (.slice a 0 c) ∧ Kept [] W w') := hideIt ((sorted_nil _ W.heap.size (cellAt (alloc_at rfl) rfl) (by simp)).mono fun e w' ⟨a, c, he, hk⟩ => ⟨a, c, he, ((Kept.alloc _ _).trans hk).sub (by simp)⟩)
  have HF := hideIt hfW
  have HKW := hideIt hkW
  clear hfW hkW h
  go_enter Tryz.func12, Tryz.ntmps12
  go_wp2_with (first | (go_at_call 8; refine HD.out.mono ?_; rintro e wx ⟨rfl, rfl⟩))
  refine wp_loop_rounds 1 ?_
  rw [rounds_succ]
  go_wp2_with (first | (go_at_call 27; refine (keys_any none _).mono ?_; rintro e wy ⟨rfl, rfl⟩) | (go_at_call 26; refine HX.out.mono ?_; rintro e w4 ⟨sa, sc, rfl, hk4⟩; have h4 := hk4.fs HF.out (by simp); have g1 := fs1 h4; have g0 := fs0 h4; have g0f := thawAt h4 0; have HK4 := hideIt hk4; have HH4 := hideIt h4; clear hk4 h4))
  refine wp_loop_rounds 1 ?_
  rw [rounds_succ]
  have cn := clear_none
  obtain ⟨w6, h6⟩ : ∃ w6, (w4.setCell ⟨fb, 0, none⟩ (.map none)).setCell ⟨fb, 2, none⟩ (.slice none 0 0) = w6 := ⟨_, rfl⟩
  have hA : FsAt (w4.setCell ⟨fb, 0, none⟩ (.map none)) fb (.map none) (.map none) (.slice none 0 0) (.map none) 0 0 room 0 false (.slice none 0 0) := by
    have := HH4.out
    unfold FsAt at this ⊢
    rw [heap_setCell_same w4 fb 0 _ 54 _ this]
    rfl
  have hB : FsAt w6 fb (.map none) (.map none) (.slice none 0 0) (.map none) 0 0 room 0 false (.slice none 0 0) := by
    rw [← h6]
    unfold FsAt at hA ⊢
    rw [heap_setCell_same _ fb 2 _ 54 _ hA]
    rfl
  have a2 := fs2 hA
  have a2f := thawAt hA 2
  have b3 := fs3 hB
  have HB := hideIt hB
  have HKB : Hid (Kept [fb] w w6) := hideIt (by rw [← h6]; exact (((HKW.out.trans HK4.out).trans (Kept.set fb 0 _)).trans (Kept.set fb 2 _)).sub (by simp))
  have HC := hideIt (count_nil hB)
  clear hA hB
  go_wp2_with (first | (go_at_call 29; refine (clone_nil _).mono ?_; rintro e w5 ⟨rfl, hw5⟩; obtain rfl := hw5.symm) | (rw [h6] at *; go_at_call 30; refine HC.out.mono ?_; rintro e w7 ⟨rfl, h7, hk7⟩; have z9 := fs9 h7; have z9f := thawAt h7 9; have HH7 := hideIt h7; have HK7 := hideIt hk7; clear h7 hk7) | (go_at_call 30; refine HC.out.mono ?_; rintro e w7 ⟨rfl, h7, hk7⟩; have z9 := fs9 h7; have z9f := thawAt h7 9; have HH7 := hideIt h7; have HK7 := hideIt hk7; clear h7 hk7))
  refine bodyPost_end (results_none Tryz.results12 _ _ _) rfl ⟨rfl, ?_, ((HKB.out.trans HK7.out).trans (Kept.set fb 9 _)).sub (by simp)⟩
  have := HH7.out
  unfold GoneAt FsAt at *
  rw [heap_setCell_same w7 fb 9 _ 54 _ this]
  rfl
end
end Go.Proofs.YtknmmlfdlfioiaaGreatDoor.Vc
namespace Go.Proofs.YtknmmlfdlfioiaaGreatDoor.Vc
open Go.RowKit Go.Shelf Go.Maps
/-- What a call looks at. -/
structure Look (pl : Value) (w : World) (fb : Nat) (nv sv uv done : Value) (came : Nat) (used : Int) (room steps : Nat) (D1 : DataW Value) : Prop where
  fs : FsAt w fb nv sv done uv came used room steps false pl
  fold : ∀ X, Kept [] w X → ∀ q : ByteArray, q.size ≤ 1000 → Calls Tryz.prog 46 #[nv, .string q] X fun e w' => e = .returned (.bool (folderB D1 q (pv D1 q))) ∧ w' = X
  look : ∀ X, Kept [] w X → ∀ q : ByteArray, q.size ≤ 1000 → (Instr.lookup 50 nv (.string q) true).run Tryz.prog X = .ok (.tuple #[.pointer (pv D1 q), .bool (Maps.has D1 (key q))]) X ∧ (Instr.lookup 50 nv (.string q) false).run Tryz.prog X = .ok (.pointer (pv D1 q)) X
  bare : ∀ X, Kept [] w X → ∀ q : ByteArray, q.size ≤ 1000 → Calls Tryz.prog 48 #[nv, .string q] X fun e w' => ∃ y, e = .returned (.bool y) ∧ (y = true ↔ (folderB D1 q (pv D1 q) = false ∨ NoKids D1 q)) ∧ Kept [] X w'
  file : ∀ X, Kept [] w X → ∀ q : ByteArray, q.size ≤ 1000 → Calls Tryz.prog 55 #[.pointer (some ⟨fb, 0, none⟩), .string q] X fun e w' => e = .returned (fileR (Maps.has D1 (key q)) (pv D1 q)) ∧ w' = X
section
variable {A : Nat → Prop} {B0 : Nat} {pl : Value} {w : World} {fb b1 b2 b3 : Nat} {done nv sv uv : Value} {came : Nat} {used : Int} {room steps n1 n2 n3 k : Nat} {D1 D2 D3 : DataW Value} {xs : List Value} {T : World → Prop}
theorem look_some (h : Sg pl A B0 w fb b1 b2 b3 done came used room steps n1 n2 n3 k D1 D2 D3 xs) (hp : Ptrs D1) (hk : ∀ l, Maps.has D1 (.string l) = true → l.length ≤ 1000) :
    Look pl w fb (.map (some b1)) (.map (some b2)) (.map (some b3)) done came used room steps D1 where
  fs := h.fs
  fold := fun X hX q hq => folder_gen (hX.map h.m1 (by simp)) q (by omega) _ (hp q)
  look := fun X hX q hq => by
    have a := look_ok (hX.map h.m1 (by simp)) q (by unfold maxLen; omega)
    have b := look_at (hX.map h.m1 (by simp)) q (by unfold maxLen; omega)
    rw [hp q] at a b
    exact ⟨a, b⟩
  bare := fun X hX q hq => bare_gen (hX.map h.m1 (by simp)) q (by omega) _ (hp q) hk
  file := fun X hX q hq => file_gen (hX.fs h.fs (by simp)) (hX.map h.m1 (by simp)) q hq _ (hp q)
theorem look_nil (h : FsAt w fb (.map none) (.map none) (.slice none 0 0) (.map none) came used room steps false pl) :
    Look pl w fb (.map none) (.map none) (.map none) (.slice none 0 0) came used room steps (.map []) where
  fs := h
  fold := fun X _ q hq => folder_nil q hq X
  look := fun X _ q hq => ⟨look_nil_ok X q (by unfold maxLen; omega), look_nil_at X q (by unfold maxLen; omega)⟩
  bare := fun X _ q hq => bare_nil q hq X
  file := fun X hX q hq => file_nil (hX.fs h (by simp)) q hq
set_option maxHeartbeats 1600000 in
set_option maxRecDepth 100000 in
theorem sync_strike (hV : Look pl w fb nv sv uv done came used room steps D1) (hm : MaxAt w) (p : ByteArray) (hp : p.size ≤ 140737488355328) (hE : syE D1 p = 0) (hT : ∀ X, Kept [] w X → Calls Tryz.prog 64 #[.pointer (some ⟨fb, 0, none⟩)] X fun e w' => e = .returned (.int .i64 7) ∧ T w') :
    Calls Tryz.prog 41 #[.pointer (some ⟨fb, 0, none⟩), .string p] w fun e w' => e = .returned (.int .i64 7) ∧ T w' := by
  obtain ⟨W, hW⟩ : ∃ W, w.alloc (.cells #[.string p] 9) = W := ⟨_, rfl⟩
  have hkW : Kept [] w W := by rw [← hW]; exact Kept.alloc _ _
  have hrow : W.heap[w.heap.size]? = some (.cells #[.string p] 9 (0, 0)) := by rw [← hW]; exact alloc_at rfl
  have hf := hkW.fs hV.fs (by simp)
  have HH := hideIt (hindered_one hf (hkW.max hm (by simp)) p hp w.heap.size 9 hrow)
  have HF : Hid (∀ X, Below W.heap.size W X → Kept [] w X) := hideIt (fun X hX => (hkW.trans (Kept.of_below hX)).sub (by simp))
  have hpath : pathL p.data.toList = true := by
    unfold syE at hE
    split at hE
    · assumption
    · cases hE
  have he : errPath p = 0 := by rw [errPath, if_pos hpath]
  rw [he] at HH
  have hps := path_size p hpath
  have HFI := hideIt (fun X hX => hV.file X hX p (by omega))
  have HT := hideIt hT
  rw [syE, if_pos hpath] at hE
  obtain ⟨z, hz⟩ : ∃ z, Maps.has D1 (key p) = z := ⟨_, rfl⟩
  obtain ⟨v, hv⟩ : ∃ v, pv D1 p = v := ⟨_, rfl⟩
  rw [hz, hv] at hE HFI
  clear hV hm hrow hf hkW he hz hv hpath hT
  cases z with
  | false => cases hE
  | true =>
    cases v with
    | none => cases hE
    | some va =>
      clear hE
      go_enter Tryz.func41, Tryz.ntmps41
      go_wp2_with (first | (go_at_call 54; refine HH.out.mono ?_; rintro e w1 ⟨rfl, hb1⟩; have HK1 := hideIt (HF.out w1 hb1)) | (go_at_call 55; refine (HFI.out _ HK1.out).mono ?_; rintro e wx ⟨rfl, hwx⟩; obtain rfl := hwx.symm; simp only [fileR]) | (go_at_call 64; refine (HT.out _ HK1.out).mono ?_; rintro e w2 ⟨rfl, ht2⟩))
      go_ret
      exact ⟨rfl, ht2⟩
set_option maxHeartbeats 1600000 in
set_option maxRecDepth 100000 in
theorem rename_strike (hV : Look pl w fb nv sv uv done came used room steps D1) (hm : MaxAt w) (p p2 : ByteArray) (hp : p.size ≤ 140737488355328) (ht : p2.size ≤ 140737488355328) (hE : rnE D1 p p2 = 0) (hT : ∀ X, Kept [] w X → Calls Tryz.prog 64 #[.pointer (some ⟨fb, 0, none⟩)] X fun e w' => e = .returned (.int .i64 7) ∧ T w') :
    Calls Tryz.prog 42 #[.pointer (some ⟨fb, 0, none⟩), .string p, .string p2] w fun e w' => e = .returned (.int .i64 7) ∧ T w' := by
  obtain ⟨W, hW⟩ : ∃ W, w.alloc (.cells #[.string p, .string p2] 9) = W := ⟨_, rfl⟩
  have hkW : Kept [] w W := by rw [← hW]; exact Kept.alloc _ _
  have hrow : W.heap[w.heap.size]? = some (.cells #[.string p, .string p2] 9 (0, 0)) := by rw [← hW]; exact alloc_at rfl
  have hf := hkW.fs hV.fs (by simp)
  have HH := hideIt (hindered_two hf (hkW.max hm (by simp)) p p2 hp ht w.heap.size 9 hrow)
  have HF : Hid (∀ X, Kept [] W X → Kept [] w X ∧ FsAt X fb nv sv done uv came used room steps false pl) := hideIt (fun X hX => ⟨(hkW.trans hX).sub (by simp), hX.fs hf (by simp)⟩)
  have hpath : pathL p.data.toList = true ∧ pathL p2.data.toList = true := by
    unfold rnE at hE
    split at hE
    · assumption
    · cases hE
  obtain ⟨hpa, hta⟩ := hpath
  have he : errTwo p p2 = 0 := by rw [errTwo, if_pos hpa, errPath, if_pos hta]
  rw [he] at HH
  have hps := path_size p hpa
  have hts := path_size p2 hta
  have hds := dir_size p2 (by omega)
  rw [rnE, if_pos ⟨hpa, hta⟩] at hE
  have HFI := hideIt (fun X hX => hV.file X hX p (by omega))
  have HD := hideIt (fun X => folderOf_any p2 X ht)
  obtain ⟨d, hd⟩ : ∃ d, dirOf p2 = d := ⟨_, rfl⟩
  have HFO := hideIt (fun X hX => hV.fold X hX d (by rw [← hd]; exact hds))
  have HFT := hideIt (fun X hX => hV.fold X hX p2 (by omega))
  obtain ⟨z, hz⟩ : ∃ z, Maps.has D1 (key p) = z := ⟨_, rfl⟩
  obtain ⟨v, hv⟩ : ∃ v, pv D1 p = v := ⟨_, rfl⟩
  rw [hd] at HD hE
  obtain ⟨y, hy⟩ : ∃ y, folderB D1 d (pv D1 d) = y := ⟨_, rfl⟩
  obtain ⟨x, hx⟩ : ∃ x, folderB D1 p2 (pv D1 p2) = x := ⟨_, rfl⟩
  obtain ⟨q, hq⟩ : ∃ q, (p.toList == p2.toList) = q := ⟨_, rfl⟩
  rw [hz, hv] at hE HFI
  rw [hy] at hE HFO
  rw [hx] at hE HFT
  rw [hq] at hE
  have HT := hideIt hT
  clear hV hm hrow hf hkW he hz hv hpa hta hd hy hx hT
  cases z with
  | false => cases hE
  | true =>
    cases v with
    | none => cases hE
    | some va =>
      cases q with
      | true => cases hE
      | false =>
        have hq2 : ¬ p.toList = p2.toList := beq_eq_false_iff_ne.1 hq
        cases y with
        | false => cases hE
        | true =>
          cases x with
          | true => cases hE
          | false =>
            clear hE
            go_enter Tryz.func42, Tryz.ntmps42
            go_wp2_with (first | (go_at_call 54; refine HH.out.mono ?_; rintro e w1 ⟨rfl, hb1⟩; have HK1 := hideIt (HF.out w1 hb1).1; have d0 := fs0 (HF.out w1 hb1).2) | (go_at_call 55; refine (HFI.out _ HK1.out).mono ?_; rintro e wx ⟨rfl, hwx⟩; obtain rfl := hwx.symm; simp only [fileR]))
            go_region_held3 (fun X => X.cell? ⟨fb, 0, none⟩ = some nv) (first | exact d0 | assumption) (first | (go_at_call 47; refine (HD.out _).mono ?_; rintro e wx ⟨rfl, rfl⟩) | (go_at_call 46; refine (HFO.out _ (by exact HK1.out.drew)).mono ?_; rintro e wx ⟨rfl, rfl⟩))
            go_wp2_with (first | (go_at_call 46; refine (HFT.out _ (by exact HK1.out.drew)).mono ?_; rintro e wx ⟨rfl, hwx⟩; obtain rfl := hwx.symm) | (go_at_call 64; refine (HT.out _ HK1.out.drew).mono ?_; rintro e w2 ⟨rfl, ht2⟩))
            go_ret
            exact ⟨rfl, ht2⟩
set_option maxHeartbeats 1600000 in
set_option maxRecDepth 100000 in
theorem remove_strike (hV : Look pl w fb nv sv uv done came used room steps D1) (hm : MaxAt w) (p : ByteArray) (hp : p.size ≤ 140737488355328) (hE : rmE D1 p = 0) (hT : ∀ X, Kept [] w X → Calls Tryz.prog 64 #[.pointer (some ⟨fb, 0, none⟩)] X fun e w' => e = .returned (.int .i64 7) ∧ T w') :
    Calls Tryz.prog 53 #[.pointer (some ⟨fb, 0, none⟩), .string p] w fun e w' => e = .returned (.int .i64 7) ∧ T w' := by
  obtain ⟨W, hW⟩ : ∃ W, w.alloc (.cells #[.string p] 9) = W := ⟨_, rfl⟩
  have hkW : Kept [] w W := by rw [← hW]; exact Kept.alloc _ _
  have hrow : W.heap[w.heap.size]? = some (.cells #[.string p] 9 (0, 0)) := by rw [← hW]; exact alloc_at rfl
  have hf := hkW.fs hV.fs (by simp)
  have HH := hideIt (hindered_one hf (hkW.max hm (by simp)) p hp w.heap.size 9 hrow)
  have HF : Hid (∀ X, Below W.heap.size W X → Kept [] w X ∧ FsAt X fb nv sv done uv came used room steps false pl) := hideIt (fun X hX => ⟨(hkW.trans (Kept.of_below hX)).sub (by simp), (Kept.of_below hX).fs hf (by simp)⟩)
  have hpath : pathL p.data.toList = true := by
    unfold rmE at hE
    split at hE
    · assumption
    · cases hE
  have he : errPath p = 0 := by rw [errPath, if_pos hpath]
  rw [he] at HH
  have hps := path_size p hpath
  have HT := hideIt hT
  have hz : Maps.has D1 (key p) = true := by
    unfold rmE at hE
    rw [if_pos hpath] at hE
    split at hE
    · assumption
    · cases hE
  have hbn : folderB D1 p (pv D1 p) = false ∨ NoKids D1 p := by
    unfold rmE at hE
    rw [if_pos hpath, if_pos hz] at hE
    split at hE
    · assumption
    · cases hE
  have HL := hideIt (fun X hX => (hV.look X hX p (by omega)).1)
  rw [hz] at HL
  have HBR := hideIt (fun X hX => hV.bare X hX p (by omega))
  have HBN := hideIt hbn
  clear hV hm hrow hf hkW he hz hpath hT hbn hE
  go_enter Tryz.func53, Tryz.ntmps53
  go_wp2_with (first | (go_at_call 54; refine HH.out.mono ?_; rintro e w1 ⟨rfl, hb1⟩; obtain ⟨hk1, hf1⟩ := HF.out w1 hb1; have d0 := fs0 hf1; have HK1 := hideIt hk1; have hl := HL.out w1 hk1; clear hk1 hf1) | (go_at_call 48; refine (HBR.out _ HK1.out).mono ?_; rintro e w5 ⟨y, rfl, hy, hk5⟩; obtain rfl : y = true := hy.2 HBN.out; have HK5 := hideIt ((HK1.out.trans hk5).sub (cs := []) (by simp)); clear hy hk5) |
    (go_at_call 64; refine (HT.out _ HK5.out).mono ?_; rintro e w2 ⟨rfl, ht2⟩))
  go_ret
  exact ⟨rfl, ht2⟩
set_option maxHeartbeats 800000 in
set_option maxRecDepth 100000 in
theorem syncDir_strike (q : ByteArray) (hno : ∀ X, Kept [] w X → Calls Tryz.prog 69 #[.pointer (some ⟨fb, 0, none⟩), .string q] X fun e w' => e = .returned (.int .i64 0) ∧ Kept [] X w') (hT : ∀ X, Kept [] w X → Calls Tryz.prog 64 #[.pointer (some ⟨fb, 0, none⟩)] X fun e w' => e = .returned (.int .i64 7) ∧ T w') :
    Calls Tryz.prog 43 #[.pointer (some ⟨fb, 0, none⟩), .string q] w fun e w' => e = .returned (.int .i64 7) ∧ T w' := by
  obtain ⟨W, hW⟩ : ∃ W, w.alloc (.cells #[.string q] 9) = W := ⟨_, rfl⟩
  have hkW : Kept [] w W := by rw [← hW]; exact Kept.alloc _ _
  have hrow : W.heap[w.heap.size]? = some (.cells #[.string q] 9 (0, 0)) := by rw [← hW]; exact alloc_at rfl
  have pc : W.cell? ⟨w.heap.size, 0, none⟩ = some (.string q) := cellAt hrow rfl
  have HN := hideIt (hno W hkW)
  have HT : Hid (∀ X, Kept [] W X → Calls Tryz.prog 64 #[.pointer (some ⟨fb, 0, none⟩)] X fun e w' => e = .returned (.int .i64 7) ∧ T w') := hideIt (fun X hX => hT X ((hkW.trans hX).sub (by simp)))
  clear hrow hkW hno hT
  go_enter Tryz.func43, Tryz.ntmps43
  go_wp2_with (first | (go_at_call 69; refine HN.out.mono ?_; rintro e w0 ⟨rfl, hk0⟩; have HK0 := hideIt hk0; clear hk0) | (go_at_call 64; refine (HT.out _ HK0.out).mono ?_; rintro e w1 ⟨rfl, ht1⟩))
  go_ret
  exact ⟨rfl, ht1⟩
set_option maxHeartbeats 3200000 in
set_option maxRecDepth 100000 in
theorem write_strike (hV : Look pl w fb nv sv uv done came used room steps D1) (hm : MaxAt w) (p s : ByteArray) (hp : p.size ≤ 140737488355328) (hss : s.size ≤ 100000000) (hu1 : -1000000000000000 ≤ used) (hu2 : used ≤ 1000000000000000) (hr : room ≤ 1000000000000000)
    (hpath : pathL p.data.toList = true) (hy : folderB D1 (dirOf p) (pv D1 (dirOf p)) = true) (hx : folderB D1 p (pv D1 p) = false) (hv : pv D1 p = none) (hfull : ¬ Full used room (s.size : Int)) (hT : ∀ X, Kept [] w X → Calls Tryz.prog 64 #[.pointer (some ⟨fb, 0, none⟩)] X fun e w' => e = .returned (.int .i64 7) ∧ T w') :
    Calls Tryz.prog 40 #[.pointer (some ⟨fb, 0, none⟩), .string p, .string s] w fun e w' => e = .returned (.int .i64 7) ∧ T w' := by
  obtain ⟨W, hW⟩ : ∃ W, w.alloc (.cells #[.string p] 9) = W := ⟨_, rfl⟩
  have hkW : Kept [] w W := by rw [← hW]; exact Kept.alloc _ _
  have hrow : W.heap[w.heap.size]? = some (.cells #[.string p] 9 (0, 0)) := by rw [← hW]; exact alloc_at rfl
  have hf := hkW.fs hV.fs (by simp)
  have HH := hideIt (hindered_one hf (hkW.max hm (by simp)) p hp w.heap.size 9 hrow)
  have he : errPath p = 0 := by rw [errPath, if_pos hpath]
  rw [he] at HH
  have HF : Hid (∀ X, Below W.heap.size W X → Kept [] w X ∧ FsAt X fb nv sv done uv came used room steps false pl) := hideIt (fun X hX => ⟨(hkW.trans (Kept.of_below hX)).sub (by simp), (Kept.of_below hX).fs hf (by simp)⟩)
  have hps := path_size p hpath
  have hds := dir_size p (by omega)
  have HD := hideIt (fun X => folderOf_any p X hp)
  obtain ⟨d, hd⟩ : ∃ d, dirOf p = d := ⟨_, rfl⟩
  have HFO := hideIt (fun X hX => hV.fold X hX d (by rw [← hd]; exact hds))
  have HFP := hideIt (fun X hX => hV.fold X hX p (by omega))
  rw [hd] at HD hy
  rw [hx] at HFP
  rw [hy] at HFO
  have HL := hideIt (fun X hX => (hV.look X hX p (by omega)).2)
  rw [hv] at HL
  obtain ⟨R, hR⟩ : ∃ R : Int, (room : Int) - used = R := ⟨_, rfl⟩
  have r1 : IntKind.i64.wrap R = R := by rw [IntKind.wrap_i64]; omega
  have hgc : (decide ((0 : Int) < (s.size : Int)) = false ∧ decide (0 < s.size) = false) ∨ (decide ((0 : Int) < (s.size : Int)) = true ∧ (0 : Int) < (s.size : Int) ∧ decide (0 < s.size) = true ∧ 0 < s.size) := by
    by_cases hz : 0 < s.size
    · exact .inr ⟨decide_eq_true (by omega), by omega, decide_eq_true hz, hz⟩
    · exact .inl ⟨decide_eq_false (by omega), decide_eq_false hz⟩
  have hfull' : ¬ (R < (s.size : Int) ∧ (0 : Int) < (s.size : Int)) := by rw [← hR]; exact hfull
  have HT := hideIt hT
  clear hV hm hrow hf hkW he hd hy hx hv hpath hT hfull
  rcases hgc with ⟨g1, g2⟩ | ⟨g1, g2, g3, g4⟩
  · clear hfull'
    go_enter Tryz.func40, Tryz.ntmps40
    go_wp2_with (first | (go_at_call 54; refine HH.out.mono ?_; rintro e w1 ⟨rfl, hb1⟩))
    obtain ⟨hk1, hf1⟩ := HF.out w1 hb1
    have d0 := fs0 hf1
    have d5 := fs5 hf1
    have d6 := fs6 hf1
    have HK1 := hideIt hk1
    have hl := HL.out w1.drew hk1.drew
    have HT1 : Hid (∀ j, Calls Tryz.prog 64 #[.pointer (some ⟨fb, 0, none⟩)] (w1.drewN j) fun e w2 => e = .returned (.int .i64 7) ∧ T w2) := hideIt (fun j => HT.out _ (HK1.out.drewN j))
    clear hk1 hf1
    go_region_held3 (fun X => X.cell? ⟨fb, 0, none⟩ = some nv) (first | exact d0 | assumption) (first | (go_at_call 47; refine (HD.out _).mono ?_; rintro e wx ⟨rfl, rfl⟩) | (go_at_call 46; refine (HFO.out _ (by exact HK1.out.drew)).mono ?_; rintro e wx ⟨rfl, rfl⟩))
    go_wp2_with (first | (go_at_call 46; refine (HFP.out _ (by exact HK1.out.drew)).mono ?_; rintro e wx ⟨rfl, hwx⟩; obtain rfl := hwx.symm))
    go_quiet (fail)
    go_wp2_with (first | (go_at_call 64; refine (HT1.out _).mono ?_; rintro e w2 ⟨rfl, ht2⟩))
    go_ret
    exact ⟨rfl, ht2⟩
  · have g5 : decide (R < (s.size : Int)) = false := decide_eq_false (fun h => hfull' ⟨h, g2⟩)
    have g6 : ¬ R < (s.size : Int) := fun h => hfull' ⟨h, g2⟩
    clear hfull'
    go_enter Tryz.func40, Tryz.ntmps40
    go_wp2_with (first | (go_at_call 54; refine HH.out.mono ?_; rintro e w1 ⟨rfl, hb1⟩))
    obtain ⟨hk1, hf1⟩ := HF.out w1 hb1
    have d0 := fs0 hf1
    have d5 := fs5 hf1
    have d6 := fs6 hf1
    have HK1 := hideIt hk1
    have hl := HL.out w1.drew hk1.drew
    have HT1 : Hid (∀ j, Calls Tryz.prog 64 #[.pointer (some ⟨fb, 0, none⟩)] (w1.drewN j) fun e w2 => e = .returned (.int .i64 7) ∧ T w2) := hideIt (fun j => HT.out _ (HK1.out.drewN j))
    clear hk1 hf1
    go_region_held3 (fun X => X.cell? ⟨fb, 0, none⟩ = some nv) (first | exact d0 | assumption) (first | (go_at_call 47; refine (HD.out _).mono ?_; rintro e wx ⟨rfl, rfl⟩) | (go_at_call 46; refine (HFO.out _ (by exact HK1.out.drew)).mono ?_; rintro e wx ⟨rfl, rfl⟩))
    go_wp2_with (first | (go_at_call 46; refine (HFP.out _ (by exact HK1.out.drew)).mono ?_; rintro e wx ⟨rfl, hwx⟩; obtain rfl := hwx.symm))
    go_quiet (fail)
    go_wp2_with (first | (go_at_call 64; refine (HT1.out _).mono ?_; rintro e w2 ⟨rfl, ht2⟩))
    go_ret
    exact ⟨rfl, ht2⟩
end
end Go.Proofs.YtknmmlfdlfioiaaGreatDoor.Vc
namespace Go.Proofs.YtknmmlfdlfioiaaGreatDoor.Vc
open Go.RowKit Go.Shelf Go.Maps
theorem infoFall : (Tryz.prog.info? 32).map (fun i => (i.zero, i.size, i.bytes)) = some (some (.agg #[.int .i64 0, .int .u64 0, .int .i64 0]), 3, 24) := by kernel_rfl
/-- No fall is planned. -/
def Quiet (pl : Value) : Prop := ∃ a c, pl = .slice a 0 c
theorem Quiet.calm {pl : Value} (h : Quiet pl) (w : World) (s : Nat) : Calm pl w s := .inl h
/-- One is. -/
def PlanAt (w : World) (pl : Value) (g : Nat) (t k n : Int) : Prop := ∃ (c : Nat) (cur : Array Value), pl = .slice (some ⟨g, 0, none⟩) 1 c ∧ 1 ≤ c ∧ c ≤ maxLen ∧ w.heap[g]? = some (.cells cur 32 (0, 0)) ∧ cur[0]? = some (.int .i64 t) ∧ cur[1]? = some (.int .u64 k) ∧ cur[2]? = some (.int .i64 n)
theorem PlanAt.calm {w : World} {pl : Value} {g : Nat} {t k n : Int} (h : PlanAt w pl g t k n) {s : Nat} (hs : (s : Int) < t) : Calm pl w s := by
  obtain ⟨c, cur, e, h1, h2, h3, h4, h5, h6⟩ := h
  obtain ⟨m, rfl⟩ : ∃ m : Nat, t = (m : Int) := ⟨t.toNat, by omega⟩
  exact .inr ⟨g, 0, 1, c, m, e, by omega, by omega, cellAt h3 h4, block_lt h3, by omega⟩
set_option maxHeartbeats 400000 in
set_option maxRecDepth 100000 in
theorem clone_none (w : World) : Calls Tryz.prog 17 #[.slice none 0 0] w fun e w' => e = .returned (.slice none 0 0) ∧ w' = w := by
  have hq : (binOp BinOp.eql 23 (.slice none 0 0) (.slice none 0 0)).run Tryz.prog w = .ok (.bool true) w := by kernel_rfl
  go_enter Tryz.func17, Tryz.ntmps17
  go_wp2
  go_ret
  exact ⟨rfl, rfl⟩
set_option maxHeartbeats 800000 in
set_option maxRecDepth 100000 in
theorem clone_one {w : World} {ga c : Nat} {t k n : Int} (hg : w.heap[ga]? = some (.cells #[.int .i64 t, .int .u64 k, .int .i64 n] 32 (0, 0))) :
    Calls Tryz.prog 17 #[.slice (some ⟨ga, 0, none⟩) 1 c] w fun e w' => ∃ v g, e = .returned v ∧ w.heap.size ≤ g ∧ PlanAt w' v g t k n ∧ Kept [] w w' := by
  obtain ⟨i0, hi0, hz0, hz1, hz2⟩ := info_parts infoFall
  have hq : (binOp BinOp.eql 23 (.slice (some ⟨ga, 0, none⟩) 1 c) (.slice none 0 0)).run Tryz.prog w = .ok (.bool false) w := by kernel_rfl
  obtain ⟨W, hW⟩ : ∃ W, w.alloc (.cells #[] 32) = W := ⟨_, rfl⟩
  have hkW : Kept [] w W := by rw [← hW]; exact Kept.alloc _ _
  have hgW := hkW.fs hg (by simp)
  have hown : W.ownsRow w.heap.size 32 3 (.slice (some ⟨w.heap.size, 0, none⟩) 0 0) 0 [] := ⟨rfl, .inr ⟨w.heap.size, 0, #[], rfl, Nat.le_refl _, by rw [← hW]; exact alloc_at rfl, Nat.le_refl _, by unfold maxLen; omega, rfl, rfl⟩⟩
  have hcs : ∀ j u, [Value.int .i64 t, .int .u64 k, .int .i64 n][j]? = some u → W.cell? ((⟨ga, 0, none⟩ : Addr).add j) = some u := fun j u hj => by
    rw [Addr.add_lit, Nat.zero_add]
    refine cellAt hgW ?_
    rw [← hj]
    simp
  have h1 : ∀ u ∈ [Value.int .i64 t, .int .u64 k, .int .i64 n], u.oneCell' = true := fun u hu => by
    simp at hu
    rcases hu with rfl | rfl | rfl <;> rfl
  have hszW : w.heap.size ≤ W.heap.size := hkW.size
  have HK := hideIt hkW
  clear hkW hg hgW
  go_enter Tryz.func17, Tryz.ntmps17
  go_wp2_with (first | (at_builtin; refine wpList_append_own _ rfl _ _ 23 rfl w.heap.size 32 i0 _ 3 24 Tryz.underlying23 hi0 hz0 hz1 hz2 rfl (by decide) _ _ _ rfl hown ⟨ga, 0, none⟩ 1 c _ rfl rfl hcs h1 (by unfold maxLen; omega) (by omega) hszW ?_; intro v' w2 hown2 hg2 _))
  go_ret
  rcases hown2.2 with ⟨_, h0⟩ | ⟨g, cap, cur, e1, h2, h3, h4, h5, h6, h7⟩
  · omega
  · have hat : ∀ j u, ([] ++ [Value.int .i64 t, .int .u64 k, .int .i64 n])[j]? = some u → cur[j]? = some u := fun j u hj => by
      rw [← h7, List.getElem?_take] at hj
      split at hj
      · rwa [Array.getElem?_toList] at hj
      · cases hj
    exact ⟨_, g, rfl, h2, ⟨cap, cur, e1, h4, h5, h3, hat 0 _ rfl, hat 1 _ rfl, hat 2 _ rfl⟩, (HK.out.trans (Kept.of_grown (r := some w.heap.size) hg2)).fresh (by simp)⟩
set_option maxHeartbeats 400000 in
set_option maxRecDepth 100000 in
theorem isort_small (a : Option Addr) (n c : Nat) (hn : n ≤ 1) (f : Value) (w : World) : Calls Tryz.prog 58 #[.slice a n c, .int .i64 0, .int .i64 (n : Int), f] w fun e w' => e = .returned (.tuple #[]) ∧ w' = w := by
  have d1 : decide ((1 : Int) < (n : Int)) = false := decide_eq_false (by omega)
  go_enter Tryz.func58, Tryz.ntmps58
  go_wp2
  refine wp_loop_rounds 1 ?_
  rw [rounds_succ]
  go_wp2
  exact bodyPost_end (results_none Tryz.results58 _ _ _) rfl ⟨rfl, rfl⟩
set_option maxHeartbeats 400000 in
set_option maxRecDepth 100000 in
theorem stable_small (a : Option Addr) (n c : Nat) (hn : n ≤ 1) (f : Value) (w : World) : Calls Tryz.prog 34 #[.slice a n c, .int .i64 (n : Int), f] w fun e w' => e = .returned (.tuple #[]) ∧ w' = w := by
  have HI := hideIt (isort_small a n c hn f w)
  have d1 : decide ((20 : Int) ≤ (n : Int)) = false := decide_eq_false (by omega)
  have d2 : decide ((20 : Int) < (n : Int)) = false := decide_eq_false (by omega)
  go_enter Tryz.func34, Tryz.ntmps34
  go_wp2
  refine wp_loop_rounds 1 ?_
  rw [rounds_succ]
  go_wp2_with (first | (go_at_call 58; refine HI.out.mono ?_; rintro e w1 ⟨rfl, hw⟩; obtain rfl := hw.symm))
  refine wp_loop_rounds 1 ?_
  rw [rounds_succ]
  go_wp2
  exact bodyPost_end (results_none Tryz.results34 _ _ _) rfl ⟨rfl, rfl⟩
set_option maxHeartbeats 400000 in
set_option maxRecDepth 100000 in
theorem sortStable_small (a : Option Addr) (n c : Nat) (hn : n ≤ 1) (f : Value) (w : World) : Calls Tryz.prog 18 #[.slice a n c, f] w fun e w' => e = .returned (.tuple #[]) ∧ w' = w := by
  have HI := hideIt (stable_small a n c hn f w)
  go_enter Tryz.func18, Tryz.ntmps18
  go_wp2_with (first | (go_at_call 34; refine HI.out.mono ?_; rintro e w1 ⟨rfl, hw⟩; obtain rfl := hw.symm))
  exact bodyPost_end (results_none Tryz.results18 _ _ _) rfl ⟨rfl, rfl⟩
/-- The whole has another plan, and all else is as it was. -/
structure Replan (w w' : World) (fb : Nat) (pl pl' : Value) : Prop where
  kept : Kept [fb] w w'
  fs : ∀ nv sv dv uv came used room steps dead, FsAt w fb nv sv dv uv came used room steps dead pl → FsAt w' fb nv sv dv uv came used room steps dead pl'
set_option maxHeartbeats 800000 in
set_option maxRecDepth 100000 in
theorem plan_gen {w : World} {fb : Nat} {nv sv dv uv pl arg : Value} {came used room steps : Int} {dead : Bool} {n : Nat} (h : FsAt w fb nv sv dv uv came used room steps dead pl) (hn : n ≤ 1) (P : Value → World → Prop)
    (hC : Calls Tryz.prog 17 #[arg] w fun e w' => ∃ a c, e = .returned (.slice a n c) ∧ P (.slice a n c) w' ∧ Kept [] w w') :
    Calls Tryz.prog 7 #[.pointer (some ⟨fb, 0, none⟩), arg] w fun e w' => e = .returned (.tuple #[]) ∧ ∃ v w1, P v w1 ∧ Kept [] w w1 ∧ w' = w1.setCell ⟨fb, 8, none⟩ v ∧ Replan w w' fb pl v := by
  have HC := hideIt hC
  have HH := hideIt h
  have HF : Hid (∀ w1 v, Kept [] w w1 → Replan w (w1.setCell ⟨fb, 8, none⟩ v) fb pl v) := hideIt (fun w1 v hk => ⟨(hk.trans (Kept.set fb 8 v)).sub (by simp), fun nv sv dv uv came used room steps dead h' => by
    have h1 := hk.fs h' (by simp)
    unfold FsAt
    rw [heap_setCell_same w1 fb 8 _ 54 _ h1]
    rfl⟩)
  clear hC h
  go_enter Tryz.func7, Tryz.ntmps7
  go_wp2_with (first
    | (go_at_call 17; refine HC.out.mono ?_; rintro e w1 ⟨pa, pc, rfl, hP, hk⟩; have h1 := hk.fs HH.out (by simp); have c8 := fs8 h1; have f8 := thawAt h1 8; have x8 := fs8 ((HF.out w1 (.slice pa n pc) hk).fs _ _ _ _ _ _ _ _ _ HH.out); have HP1 := hideIt hP; have HK1 := hideIt hk; clear hP hk h1)
    | (go_at_call 18; refine (sortStable_small pa n pc hn _ _).mono ?_; rintro e w2 ⟨rfl, hw⟩; obtain rfl := hw.symm))
  exact bodyPost_end (results_none Tryz.results7 _ _ _) rfl ⟨rfl, _, _, HP1.out, HK1.out, rfl, HF.out _ _ HK1.out⟩
theorem plan_none {w : World} {fb : Nat} {nv sv dv uv pl : Value} {came used room steps : Int} {dead : Bool} (h : FsAt w fb nv sv dv uv came used room steps dead pl) :
    Calls Tryz.prog 7 #[.pointer (some ⟨fb, 0, none⟩), .slice none 0 0] w fun e w' => e = .returned (.tuple #[]) ∧ Replan w w' fb pl (.slice none 0 0) :=
  (plan_gen (n := 0) h (by omega) (fun v _ => v = .slice none 0 0) ((clone_none w).mono fun e w' ⟨he, hw⟩ => ⟨none, 0, he, rfl, by rw [hw]; exact Kept.refl _ _⟩)).mono fun e w' ⟨he, v, w1, hv, _, _, hr⟩ => ⟨he, by rw [hv] at hr; exact hr⟩
theorem plan_one {w : World} {fb : Nat} {nv sv dv uv pl : Value} {came used room steps : Int} {dead : Bool} (h : FsAt w fb nv sv dv uv came used room steps dead pl) {ga c : Nat} {t k n : Int} (hg : w.heap[ga]? = some (.cells #[.int .i64 t, .int .u64 k, .int .i64 n] 32 (0, 0))) :
    Calls Tryz.prog 7 #[.pointer (some ⟨fb, 0, none⟩), .slice (some ⟨ga, 0, none⟩) 1 c] w fun e w' => e = .returned (.tuple #[]) ∧ ∃ pl' g, w.heap.size ≤ g ∧ PlanAt w' pl' g t k n ∧ Replan w w' fb pl pl' := by
  refine (plan_gen (n := 1) h (by omega) (fun v w1 => ∃ g, w.heap.size ≤ g ∧ PlanAt w1 v g t k n) ((clone_one hg).mono fun e w' ⟨v, g, he, h1, h2, h3⟩ => ?_)).mono fun e w' ⟨he, v, w1, ⟨g, h1, h2⟩, hk, hw, hr⟩ => ⟨he, v, g, h1, ?_, hr⟩
  · have h2' := h2
    obtain ⟨c', cur, rfl, _⟩ := h2'
    exact ⟨_, c', he, ⟨g, h1, h2⟩, h3⟩
  · obtain ⟨c', cur, e1, h3, h4, h5, h6⟩ := h2
    have hlt := block_lt h
    refine ⟨c', cur, e1, h3, h4, ?_, h6⟩
    rw [hw]
    exact (Kept.set fb 8 v).fs h5 (by simp; omega)
section
variable {pl pl' : Value} {n0 : Nat} {A : Nat → Prop} {b : Nat} {w w' : World} {fb : Nat} {S : Fs} {room : Nat}
theorem Rep.planned (h : Rep pl n0 A b w fb S) (hr : Replan w w' fb pl pl') : RepTo pl' n0 A b w fb S w' := by
  obtain ⟨b1, b2, b3, done, n1, n2, n3, D1, D2, D3, F, e1, e2, e3, hS, hL⟩ := h.laid
  have hk := hr.kept
  have m1 := file_ne_map hS.fs hS.m1
  have m2 := file_ne_map hS.fs hS.m2
  have m3 := file_ne_map hS.fs hS.m3
  have m4 := row_ne_cells hS.row hS.fs (by decide)
  have hf : ∀ xo, Frm (Wide A w) fb xo w w' := fun xo => Frm.fs1 hk hS.fs hS.a0
  have hS' : Sg pl' (Wide A w) 0 w' fb b1 b2 b3 done S.came S.used S.room S.steps n1 n2 n3 S.acts.length D1 D2 D3 (acsV (S.acts.map (acOf F))) := by
    refine ⟨hr.fs _ _ _ _ _ _ _ _ _ hS.fs, hk.map hS.m1 (by simpa using fun e => m1 e.symm), hk.map hS.m2 (by simpa using fun e => m2 e.symm), hk.map hS.m3 (by simpa using fun e => m3 e.symm), hk.row hS.row (fun g hg => ?_), hS.d12, hS.d13, hS.d23, Nat.zero_le _, hS.a1, hS.a2, hS.a3, hS.a0, hS.a4, fun g hg => hS.aw g (Nat.le_trans hk.size hg)⟩
    simp
    intro e
    subst e
    rw [hg] at m4
    simp at m4
  have hO : Out A w w' := Out.of_frm (hf NoX)
  have hA : ∀ g, Wide A w g → Wide (fun g => Wide A w g ∧ g < w'.heap.size) w' g := fun g hg => by
    by_cases hlt : g < w'.heap.size
    · exact .inl ⟨hg, hlt⟩
    · exact .inr (by omega)
  have hL' : Laid (Wide A w) w' fb S D1 D2 D3 F := ⟨hL.nr1, hL.nr2, hL.k1.frm (hf NoX), hL.k2.frm (hf NoX), hL.inj, hL.keepF (hf _), hL.m3, hL.uns, hL.unv⟩
  exact ⟨fun g => Wide A w g ∧ g < w'.heap.size, fun g h => h.1, ⟨h.max.base (hO.below h.nw h.lo) h.z0, h.z0, Nat.le_trans h.nw hO.size, fun g hg => hg.1.elim (h.lo g) (fun e => Nat.le_trans h.nw e), fun g h => h.2, h.cb, h.kb, h.sb, h.u1, h.u2, h.rb, h.o1, h.o2, h.ao, b1, b2, b3, done, n1, n2, n3, D1, D2, D3, F, e1, e2, e3, hS'.wider hA, hL'.wider hA⟩, hO⟩
theorem Dead.planned (h : Dead pl n0 A b w fb S) (hr : Replan w w' fb pl pl') : DeadTo pl' n0 A b w fb S w' := by
  obtain ⟨nb, b2, b3, n, D, F, hn, hfs, hm1, hm2, hm3, d12, d13, d23, a1, a2, a3, a0, hL⟩ := h.laid
  have hk := hr.kept
  have m1 := file_ne_map hfs hm1
  have m2 := file_ne_map hfs hm2
  have m3 := file_ne_map hfs hm3
  have hf : ∀ xo, Frm (Wide A w) fb xo w w' := fun xo => Frm.fs1 hk hfs a0
  have hO : Out A w w' := Out.of_frm (hf NoX)
  have hA : ∀ g, Wide A w g → Wide (fun g => Wide A w g ∧ g < w'.heap.size) w' g := fun g hg => by
    by_cases hlt : g < w'.heap.size
    · exact .inl ⟨hg, hlt⟩
    · exact .inr (by omega)
  have hL' : Laid (Wide A w) w' fb S D D (.map []) F := ⟨hL.nr1, hL.nr2, hL.k1.frm (hf NoX), hL.k2.frm (hf NoX), hL.inj, hL.keepF (hf _), hL.m3, hL.uns, hL.unv⟩
  exact ⟨fun g => Wide A w g ∧ g < w'.heap.size, fun g h => h.1, ⟨h.max.base (hO.below h.nw h.lo) h.z0, h.z0, Nat.le_trans h.nw hO.size, fun g hg => hg.1.elim (h.lo g) (fun e => Nat.le_trans h.nw e), fun g h => h.2, h.fit, h.acts, nb, b2, b3, n, D, F, hn, hr.fs _ _ _ _ _ _ _ _ _ hfs, hk.map hm1 (by simpa using fun e => m1 e.symm), hk.map hm2 (by simpa using fun e => m2 e.symm), hk.map hm3 (by simpa using fun e => m3 e.symm), d12, d13, d23, hA _ a1, hA _ a2, hA _ a3, hA _ a0, hL'.wider hA⟩, hO⟩
/-- What a fall that strikes leaves. -/
def Struck (n0 : Nat) (A : Nat → Prop) (b : Nat) (w : World) (fb : Nat) (S : Fs) (k : Int) (w' : World) : Prop := ∃ pl' S', Quiet pl' ∧ Fell S S' k ∧ DeadTo pl' n0 A (b + 1) w fb S' w'
theorem DeadTo.step {A2 : Nat → Prop} {w1 : World} (hA : ∀ g, A2 g → A g ∨ w.heap.size ≤ g) (hO : Out A w w1) (k : DeadTo pl n0 A2 b w1 fb S w') : DeadTo pl n0 A b w fb S w' := by
  obtain ⟨A3, k1, k2, k3⟩ := k
  refine ⟨A3, fun g hg => ?_, k2, hO.trans k3 hA⟩
  rcases k1 g hg with e | e
  · exact hA g e
  · exact .inr (Nat.le_trans hO.size e)
set_option maxHeartbeats 1600000 in
set_option maxRecDepth 100000 in
theorem step_strike {g : Nat} {t k n : Int} (h : Rep pl n0 A b w fb S) (hb : b < 899) (hp : PlanAt w pl g t k n) (ht : t = (S.steps : Int)) (X : World) (hX : Kept [] w X) :
    Calls Tryz.prog 64 #[.pointer (some ⟨fb, 0, none⟩)] X fun e w' => e = .returned (.int .i64 7) ∧ Struck n0 A b w fb S k w' := by
  obtain ⟨s, hs⟩ : ∃ s, S.steps = s := ⟨_, rfl⟩
  have hsb := (h.lim hb).2.2.1
  rw [hs] at ht hsb
  have hRX := h.keep hX
  obtain ⟨b1, b2, b3, done, n1, n2, n3, D1, D2, D3, F, e1, e2, e3, hS, hL⟩ := hRX.laid
  have hfs := hS.fs
  rw [hs] at hfs
  obtain ⟨c, cur, rfl, hc1, hc2, hg, h4, h5, h6⟩ := hp
  have hgX := hX.fs hg (by simp)
  have c0 := cellAt hgX h4
  have c1 := cellAt hgX h5
  have c2 := cellAt hgX h6
  have f8 := fs8 hfs
  have f7 := fs7 hfs
  have t8 := thawAt hfs 8
  subst ht
  have HCR : Hid (∀ (Z Q : World) (pl' : Value), Quiet pl' → Kept [] X Z → Kept [] (Z.setCell ⟨fb, 8, none⟩ pl') Q → Calls Tryz.prog 12 #[.pointer (some ⟨fb, 0, none⟩), .int .u64 k, .int .i64 n] Q fun e w' => e = .returned (.tuple #[]) ∧ Struck n0 A b w fb S k w') := hideIt (fun Z Q pl' hq hZ hQ => by
    have hRZ := hRX.keep hZ
    have hrp : Replan Z (Z.setCell ⟨fb, 8, none⟩ pl') fb (.slice (some ⟨g, 0, none⟩) 1 c) pl' := ⟨Kept.set fb 8 pl', fun nv sv dv uv came used room steps dead h' => by
      unfold FsAt
      rw [heap_setCell_same Z fb 8 _ 54 _ h']
      rfl⟩
    obtain ⟨A2, k1, k2, k3⟩ := hRZ.planned hrp
    refine (crash_rep (k2.keep hQ) hb k n).mono fun e w' ⟨he, S', hf, hd⟩ => ⟨he, pl', S', hq, hf, ?_⟩
    exact DeadTo.step (fun _ hg => .inl hg) (Out.kept hX) (DeadTo.step (fun _ hg => .inl hg) (Out.kept hZ) (DeadTo.step k1 k3 (DeadTo.step (fun _ hg => .inl hg) (Out.kept hQ) hd))))
  have hfbX : fb < X.heap.size := block_lt hfs
  have hka : Kept [] X (X.drew.alloc (.cells #[.int .i64 (s : Int), .int .u64 k, .int .i64 n] 32)) := (((Kept.refl [] X).drew).trans (Kept.alloc _ _)).sub (by simp)
  have hfa := hka.fs hfs (by simp)
  have a8 := fs8 hfa
  have ta8 := thawAt hfa 8
  have hq : ∀ v, ((X.drew.alloc (.cells #[.int .i64 (s : Int), .int .u64 k, .int .i64 n] 32)).setCell ⟨fb, 8, none⟩ v).heap[X.heap.size]? = some (.cells #[.int .i64 (s : Int), .int .u64 k, .int .i64 n] 32 (0, 0)) := fun v => by
    rw [heap_setCell_other _ ⟨fb, 8, none⟩ _ _ (by first | (show X.heap.size ≠ fb; omega) | (show fb ≠ X.heap.size; omega))]
    exact alloc_at rfl
  have q0 := fun v => cellAt (i := 0) (hq v) rfl
  have q1 := fun v => cellAt (i := 1) (hq v) rfl
  have q2 := fun v => cellAt (i := 2) (hq v) rfl
  have q7 : ∀ v, ((X.drew.alloc (.cells #[.int .i64 (s : Int), .int .u64 k, .int .i64 n] 32)).setCell ⟨fb, 8, none⟩ v).cell? ⟨fb, 7, none⟩ = some (.int .i64 (s : Int)) := fun v => by
    have h1 := heap_setCell_same _ fb 8 _ 54 v hfa
    exact cellAt h1 rfl
  have HQQ : Hid (Kept [] (X.setCell ⟨fb, 8, none⟩ (.slice (some ⟨g, 0, none⟩) 0 0)) ((X.setCell ⟨fb, 8, none⟩ (.slice (some ⟨g, 0, none⟩) 0 0)).alloc (.cells #[.int .i64 (s : Int), .int .u64 k, .int .i64 n] 32)).drew.drew) := hideIt (((Kept.alloc _ _).drew).drew)
  have d1 : decide ((s : Int) ≤ (s : Int)) = true := decide_eq_true (Int.le_refl _)
  have c3 : (1 : Int) ≤ (c : Int) := by omega
  clear hS hL hfs hgX hg h4 h5 h6 hRX h hX hq hfa hka
  rcases Nat.lt_or_ge 1 c with hc | hc
  · obtain ⟨c4, hc4⟩ : ∃ c4, c - 1 = c4 := ⟨_, rfl⟩
    have c5 : (c : Int) - 1 = (c4 : Int) := by omega
    have c6 : ¬ c4 = 0 := by omega
    have c7 : (1 : Int) < (c : Int) := by omega
    go_enter Tryz.func64, Tryz.ntmps64
    go_wp2
    refine wp_loop_rounds 1 ?_
    rw [rounds_succ]
    go_wp2
    go_region
    go_wp2
    go_region
    go_wp2_with (first | (go_at_call 12; refine (HCR.out X _ _ ⟨_, _, rfl⟩ (Kept.refl [] X) (by exact ((Kept.alloc _ _).drew).drew)).mono ?_; rintro e w2 ⟨rfl, hs2⟩))
    go_ret
    exact ⟨rfl, hs2⟩
  · obtain rfl : c = 1 := by omega
    go_enter Tryz.func64, Tryz.ntmps64
    go_wp2
    refine wp_loop_rounds 1 ?_
    rw [rounds_succ]
    go_wp2
    go_region
    go_wp2
    go_region
    go_wp2_with (first | (go_at_call 12; refine (HCR.out X _ _ ⟨_, _, rfl⟩ (Kept.refl [] X) HQQ.out).mono ?_; rintro e w2 ⟨rfl, hs2⟩))
    go_ret
    exact ⟨rfl, hs2⟩
end
end Go.Proofs.YtknmmlfdlfioiaaGreatDoor.Vc
namespace Go.Proofs.YtknmmlfdlfioiaaGreatDoor.Vc
open Go.RowKit Go.Shelf Go.Maps
section
variable {pl : Value} {w : World} {fb : Nat} {nv sv uv done : Value} {came : Nat} {used : Int} {room steps : Nat} {D1 : DataW Value}
set_option maxHeartbeats 1600000 in
set_option maxRecDepth 100000 in
theorem noFolder_look (hV : Look pl w fb nv sv uv done came used room steps D1) (hx : MaxAt w) (p : ByteArray) (hp : p.size ≤ 140737488355328) :
    Calls Tryz.prog 69 #[.pointer (some ⟨fb, 0, none⟩), .string p] w fun e w' => e = .returned (.int .i64 (nfE D1 p)) ∧ Kept [] w w' := by
  by_cases h0 : p.data.toList = []
  · obtain rfl : p = ⟨#[]⟩ := by rw [← bs_data p, h0]; rfl
    have he : nfE D1 ⟨#[]⟩ = 0 := by rw [nfE, if_pos rfl]
    rw [he]
    have HH := hideIt (hindered_none hV.fs)
    have HF := hideIt (hV.fold w (Kept.refl _ _) ⟨#[]⟩ (by decide))
    have ht : folderB D1 ⟨#[]⟩ (pv D1 ⟨#[]⟩) = true := rfl
    rw [ht] at HF
    have c0 := fs0 hV.fs
    clear hV he ht
    go_enter Tryz.func69, Tryz.ntmps69
    go_wp2_with (first | (go_at_call 54; refine HH.out.mono ?_; rintro e w1 ⟨rfl, hw1⟩; obtain rfl := hw1.symm) | (go_at_call 46; refine HF.out.mono ?_; rintro e w1 ⟨rfl, hw1⟩; obtain rfl := hw1.symm))
    go_ret
    exact ⟨rfl, Kept.refl _ _⟩
  · have e1 : (p.toList == []) = false := by rw [ByteArray.toList_eq]; simpa using h0
    have e2 : p.toList.isEmpty = false := by rw [ByteArray.toList_eq]; simpa using h0
    have e3 : (p.toList != []) = true := by rw [ByteArray.toList_eq]; simpa using h0
    obtain ⟨i0, hi0, hz0, hz1, hz2⟩ := info_parts infoStr
    have own : w.ownsRow 0 9 1 (.slice none 0 0) 0 [] := ⟨rfl, .inl ⟨rfl, rfl⟩⟩
    have HH : Hid (∀ X sb c, Kept [] w X → X.cell? ⟨sb, 0, none⟩ = some (.string p) → Calls Tryz.prog 54 #[.pointer (some ⟨fb, 0, none⟩), .slice (some ⟨sb, 0, none⟩) 1 c] X fun e w' => e = .returned (.int .i64 (errPath p)) ∧ Kept [] w w') := hideIt (fun X sb c hX hc =>
      (hindered_cell (hX.fs hV.fs (by simp)) (hX.max hx (by simp)) p hp sb c hc).mono fun _ _ k => ⟨k.1, (hX.trans k.2).sub (by simp)⟩)
    have HC : Hid (∀ X, Kept [] w X → X.cell? ⟨fb, 0, none⟩ = some nv) := hideIt (fun X hX => fs0 (hX.fs hV.fs (by simp)))
    cases hpath : pathL p.data.toList with
    | false =>
      have he : errPath p = 30 := by rw [errPath, if_neg (by rw [hpath]; simp)]
      have hne : nfE D1 p = 30 := by rw [nfE, if_neg h0, if_neg (by rw [hpath]; simp)]
      rw [he] at HH
      rw [hne]
      clear hV hx h0 hpath he hne
      go_enter Tryz.func69, Tryz.ntmps69
      go_wp2_with (first | (at_builtin; refine wpList_append_own _ rfl _ _ 123 rfl 0 9 i0 _ 1 16 Tryz.underlying123 hi0 hz0 hz1 hz2 rfl (by decide) _ _ _ rfl (own.alloc _) ⟨w.heap.size, 0, none⟩ 1 1 [.string p] rfl rfl (one_str p) (by intro u hu; simp at hu; subst hu; rfl) (by unfold maxLen; omega) (by omega) (Nat.zero_le _) ?_; intro v' w2 hown2 hg2 _; have hk2 : Kept [] w w2 := ((Kept.alloc _ _).trans (Kept.of_grown (r := none) hg2)).sub (by simp); obtain ⟨g, cap, rfl, g0⟩ := own_one hown2) | (go_at_call 54; refine (HH.out _ _ _ hk2 g0).mono ?_; rintro e w3 ⟨rfl, hk3⟩; have d0 := HC.out w3 hk3))
      go_ret
      exact ⟨rfl, hk3⟩
    | true =>
      have he : errPath p = 0 := by rw [errPath, if_pos hpath]
      rw [he] at HH
      have hps := path_size p hpath
      have HF := hideIt (fun X hX => hV.fold X hX p (by omega))
      obtain ⟨y, hy⟩ : ∃ y, folderB D1 p (pv D1 p) = y := ⟨_, rfl⟩
      rw [hy] at HF
      have HE : Hid (nfE D1 p = if y then 0 else 2) := hideIt (by rw [nfE, if_neg h0, if_pos hpath, hy])
      clear hV hx h0 hpath he hy
      cases y
      all_goals go_enter Tryz.func69, Tryz.ntmps69
      all_goals go_wp2_with (first | (at_builtin; refine wpList_append_own _ rfl _ _ 123 rfl 0 9 i0 _ 1 16 Tryz.underlying123 hi0 hz0 hz1 hz2 rfl (by decide) _ _ _ rfl (own.alloc _) ⟨w.heap.size, 0, none⟩ 1 1 [.string p] rfl rfl (one_str p) (by intro u hu; simp at hu; subst hu; rfl) (by unfold maxLen; omega) (by omega) (Nat.zero_le _) ?_; intro v' w2 hown2 hg2 _; have hk2 : Kept [] w w2 := ((Kept.alloc _ _).trans (Kept.of_grown (r := none) hg2)).sub (by simp); obtain ⟨g, cap, rfl, g0⟩ := own_one hown2) | (go_at_call 54; refine (HH.out _ _ _ hk2 g0).mono ?_; rintro e w3 ⟨rfl, hk3⟩; have d0 := HC.out w3 hk3) | (go_at_call 46; refine (HF.out _ hk3).mono ?_; rintro e w4 ⟨rfl, hw4⟩; obtain rfl := hw4.symm))
      all_goals go_ret
      all_goals exact ⟨by rw [HE.out]; rfl, hk3⟩
end
section
variable {pl pl' : Value} {n0 : Nat} {A : Nat → Prop} {b : Nat} {w w' : World} {fb : Nat} {S : Fs} {room : Nat} {g : Nat} {t k n : Int}
theorem Rep.looks (h : Rep pl n0 A b w fb S) : ∃ (b1 : Nat) (sv uv done : Value) (n1 : Nat) (D1 : DataW Value) (F : Nat → Nat), Look pl w fb (.map (some b1)) sv uv done S.came S.used S.room S.steps D1 ∧ Nr F D1 S.now ∧ NMap w b1 n1 D1 ∧ Ptrs D1 ∧ (∀ l, Maps.has D1 (.string l) = true → l.length ≤ 1000) := by
  obtain ⟨b1, b2, b3, done, n1, n2, n3, D1, D2, D3, F, e1, e2, e3, hS, hL⟩ := h.laid
  obtain ⟨h1, h2, h3⟩ := hL.k1.wellP
  exact ⟨b1, _, _, _, n1, D1, F, look_some hS h1 h2, hL.nr1, hS.m1, h1, h2⟩
theorem sync_struck (h : Rep pl n0 A b w fb S) (hb : b < 899) (hp : PlanAt w pl g t k n) (ht : t = (S.steps : Int)) (p : ByteArray) (hps : p.size ≤ 140737488355328) (hE : S.syE p = 0) :
    Calls Tryz.prog 41 #[.pointer (some ⟨fb, 0, none⟩), .string p] w fun e w' => e = .returned (.int .i64 7) ∧ Struck n0 A b w fb S k w' := by
  obtain ⟨b1, sv, uv, done, n1, D1, F, hL, hN, _⟩ := h.looks
  exact sync_strike hL h.max p hps (by rw [syE_eq hN]; exact hE) (fun X hX => step_strike h hb hp ht X hX)
theorem rename_struck (h : Rep pl n0 A b w fb S) (hb : b < 899) (hp : PlanAt w pl g t k n) (ht : t = (S.steps : Int)) (p p2 : ByteArray) (hps : p.size ≤ 140737488355328) (hps2 : p2.size ≤ 140737488355328) (hE : S.rnE p p2 = 0) :
    Calls Tryz.prog 42 #[.pointer (some ⟨fb, 0, none⟩), .string p, .string p2] w fun e w' => e = .returned (.int .i64 7) ∧ Struck n0 A b w fb S k w' := by
  obtain ⟨b1, sv, uv, done, n1, D1, F, hL, hN, _⟩ := h.looks
  exact rename_strike hL h.max p p2 hps hps2 (by rw [rnE_eq hN]; exact hE) (fun X hX => step_strike h hb hp ht X hX)
theorem remove_struck (h : Rep pl n0 A b w fb S) (hb : b < 899) (hp : PlanAt w pl g t k n) (ht : t = (S.steps : Int)) (p : ByteArray) (hps : p.size ≤ 140737488355328) (hE : S.rmE p = 0) :
    Calls Tryz.prog 53 #[.pointer (some ⟨fb, 0, none⟩), .string p] w fun e w' => e = .returned (.int .i64 7) ∧ Struck n0 A b w fb S k w' := by
  obtain ⟨b1, sv, uv, done, n1, D1, F, hL, hN, _⟩ := h.looks
  exact remove_strike hL h.max p hps (by rw [rmE_eq hN]; exact hE) (fun X hX => step_strike h hb hp ht X hX)
theorem write_struck (h : Rep pl n0 A b w fb S) (hb : b < 899) (hp : PlanAt w pl g t k n) (ht : t = (S.steps : Int)) (p s : ByteArray) (hps : p.size ≤ 140737488355328) (hs : s.size ≤ 100000000) (hE : S.wrN p = 0) (hx : S.now p = none) (hF : ¬ Full S.used S.room (s.size : Int)) :
    Calls Tryz.prog 40 #[.pointer (some ⟨fb, 0, none⟩), .string p, .string s] w fun e w' => e = .returned (.int .i64 7) ∧ Struck n0 A b w fb S k w' := by
  obtain ⟨b1, sv, uv, done, n1, D1, F, hL, hN, _⟩ := h.looks
  obtain ⟨l1, l2, l3, l4, l5, l6⟩ := h.lim hb
  have hpv : pvN S.now p = none := by unfold pvN; rw [hx]
  have hv : pv D1 p = none := by rw [hN.pv p, hpv]; rfl
  rw [← wrN_eq hN p] at hE
  have hw : pathL p.data.toList = true ∧ folderB D1 (dirOf p) (pv D1 (dirOf p)) = true ∧ folderB D1 p (pv D1 p) = false := by
    unfold wrN at hE
    split at hE
    · split at hE
      · split at hE
        · cases hE
        · rename_i h1 h2 h3
          exact ⟨h1, h2, by simpa using h3⟩
      · cases hE
    · cases hE
  exact write_strike hL h.max p s hps hs l5 l6 h.rb hw.1 hw.2.1 hw.2.2 hv hF (fun X hX => step_strike h hb hp ht X hX)
theorem noFolder_at (h : Rep pl n0 A b w fb S) (q : ByteArray) (hq : q.size ≤ 140737488355328) :
    Calls Tryz.prog 69 #[.pointer (some ⟨fb, 0, none⟩), .string q] w fun e w' => e = .returned (.int .i64 (S.nfE q)) ∧ Kept [] w w' := by
  obtain ⟨b1, sv, uv, done, n1, D1, F, hL, hN, hm, hp, hk⟩ := h.looks
  rw [← nfE_eq hN q]
  exact noFolder_look hL h.max q hq
theorem syncDir_struck (h : Rep pl n0 A b w fb S) (hb : b < 899) (hp : PlanAt w pl g t k n) (ht : t = (S.steps : Int)) (q : ByteArray) (hq : q.size ≤ 140737488355328) (hE : S.nfE q = 0) :
    Calls Tryz.prog 43 #[.pointer (some ⟨fb, 0, none⟩), .string q] w fun e w' => e = .returned (.int .i64 7) ∧ Struck n0 A b w fb S k w' :=
  syncDir_strike q (fun X hX => by have := noFolder_at (h.keep hX) q hq; rw [hE] at this; exact this) (fun X hX => step_strike h hb hp ht X hX)
set_option maxHeartbeats 400000 in
set_option maxRecDepth 100000 in
theorem steps_at {nv sv dv uv : Value} {came used rm st : Int} {dead : Bool} (h : FsAt w fb nv sv dv uv came used rm st dead pl) : Calls Tryz.prog 6 #[.pointer (some ⟨fb, 0, none⟩)] w fun e w' => e = .returned (.int .i64 st) ∧ w' = w := by
  have c7 := fs7 h
  clear h
  go_enter Tryz.func6, Tryz.ntmps6
  go_wp2
  go_ret
  exact ⟨rfl, rfl⟩
set_option maxHeartbeats 400000 in
set_option maxRecDepth 100000 in
/-- A fall where there is no power. -/
theorem crash_off {nv sv dv uv : Value} {came used rm st : Int} (h : FsAt w fb nv sv dv uv came used rm st true pl) (k n : Int) : Calls Tryz.prog 12 #[.pointer (some ⟨fb, 0, none⟩), .int .u64 k, .int .i64 n] w fun e w' => e = .returned (.tuple #[]) ∧ Kept [] w w' := by
  have HD := hideIt (fun (X : World) (hX : Kept [] w X) => (dead_any (hX.fs h (by simp))))
  clear h
  go_enter Tryz.func12, Tryz.ntmps12
  go_wp2_with (first | (go_at_call 8; refine (HD.out _ (Kept.alloc _ _)).mono ?_; rintro e wx ⟨rfl, hwx⟩; obtain rfl := hwx.symm))
  exact bodyPost_ret (results_none Tryz.results12 _ _ _) rfl ⟨rfl, Kept.alloc _ _⟩
end
end Go.Proofs.YtknmmlfdlfioiaaGreatDoor.Vc
namespace Go.Proofs.YtknmmlfdlfioiaaGreatDoor.Vc
open Go.RowKit Go.Shelf Go.Maps
set_option maxHeartbeats 3200000 in
set_option maxRecDepth 100000 in
theorem step_new_p {w : World} {fb : Nat} {done : Value} {came used room : Int} {pl : Value} (s : Nat) (hs : s < 1000000) (h : FsAt w fb (.map none) (.map none) done (.map none) came used room s false pl) (hc : Calm pl w s) :
    Calls Tryz.prog 64 #[.pointer (some ⟨fb, 0, none⟩)] w fun e w' => e = .returned (.int .i64 0) ∧ FsAt w' fb (.map (some w.heap.size)) (.map (some (w.heap.size + 1))) done (.map (some (w.heap.size + 2))) came used room ((s : Int) + 1) false pl ∧
      NMap w' w.heap.size 0 (.map []) ∧ NMap w' (w.heap.size + 1) 0 (.map []) ∧ UMap w' (w.heap.size + 2) 0 (.map []) ∧ Kept [fb] w w' := by
  rcases hc with ⟨pa, pc, rfl⟩ | ⟨g, o, m, pc, t, rfl, hm0, hm1, ct, -, hst⟩
  · exact step_new s hs h
  have c0 := fs0 h
  have c8 := fs8 h
  have c7 := fs7 h
  have f7 := thawAt h 7
  have hme := map_eq_nil
  have hw1 : IntKind.i64.wrap ((s : Int) + 1) = (s : Int) + 1 := by rw [IntKind.wrap_i64]; omega
  have hlt := block_lt h
  obtain ⟨W1, W2, W3, m1, m2, m3, hk, n1, n2, n3, hsz⟩ := made_three (w.setCell ⟨fb, 7, none⟩ (.int .i64 ((s : Int) + 1))).drew
  have e0 : ((w.setCell ⟨fb, 7, none⟩ (.int .i64 ((s : Int) + 1))).drew).heap.size = w.heap.size := by simp [World.setCell, World.drew]
  rw [e0] at m1 m2 m3 n1 n2 n3 hsz
  have h0 : FsAt (w.setCell ⟨fb, 7, none⟩ (.int .i64 ((s : Int) + 1))).drew fb (.map none) (.map none) done (.map none) came used room ((s : Int) + 1) false (.slice (some ⟨g, o, none⟩) m pc) := by
    show (w.setCell ⟨fb, 7, none⟩ (.int .i64 ((s : Int) + 1))).heap[fb]? = _
    rw [heap_setCell_same w fb 7 _ 54 _ h]
    rfl
  have h3 := hk.fs h0 (by simp)
  have g0 := thawAt h3 0
  have g1 := thawAt h3 1
  have g3 := thawAt h3 3
  have k0 := fs0 h3
  have k1 := fs1 h3
  have k3 := fs3 h3
  have HF : Hid (FsAt (((W3.setCell ⟨fb, 0, none⟩ (.map (some w.heap.size))).setCell ⟨fb, 1, none⟩ (.map (some (w.heap.size + 1)))).setCell ⟨fb, 3, none⟩ (.map (some (w.heap.size + 2)))) fb (.map (some w.heap.size)) (.map (some (w.heap.size + 1))) done (.map (some (w.heap.size + 2))) came used room ((s : Int) + 1) false (.slice (some ⟨g, o, none⟩) m pc)) := hideIt (by
    unfold FsAt
    have a1 := heap_setCell_same W3 fb 0 _ 54 (.map (some w.heap.size)) h3
    have a2 := heap_setCell_same _ fb 1 _ 54 (.map (some (w.heap.size + 1))) a1
    rw [heap_setCell_same _ fb 3 _ 54 _ a2]
    rfl)
  have HK : Hid (Kept [fb] W3 (((W3.setCell ⟨fb, 0, none⟩ (.map (some w.heap.size))).setCell ⟨fb, 1, none⟩ (.map (some (w.heap.size + 1)))).setCell ⟨fb, 3, none⟩ (.map (some (w.heap.size + 2))))) := hideIt
    ((((Kept.set fb 0 _).trans (Kept.set fb 1 _)).trans (Kept.set fb 3 _)).sub (by simp))
  have HA : Hid (Kept [fb] w W3) := hideIt (((Kept.set fb 7 _).drew.trans hk).sub (by simp))
  have HN := hideIt (And.intro n1 (And.intro n2 n3))
  clear h h0 h3 hk n1 n2 n3 hsz e0
  have d1 : decide ((0 : Int) < (m : Int)) = true := decide_eq_true (by omega)
  have d2 : (0 : Int) < (m : Int) := by omega
  have d3 : decide ((t : Int) ≤ (s : Int)) = false := decide_eq_false (by omega)
  have d4 : ¬ (t : Int) ≤ (s : Int) := by omega
  clear hst
  go_enter Tryz.func64, Tryz.ntmps64
  go_wp2
  refine wp_loop_rounds 1 ?_
  rw [rounds_succ]
  go_wp2
  go_region
  go_wp2
  go_ret
  exact ⟨rfl, HF.out, HK.out.map HN.out.1 (by simp; omega), HK.out.map HN.out.2.1 (by simp; omega), HK.out.map HN.out.2.2 (by simp; omega), (HA.out.trans HK.out).sub (by simp)⟩
theorem view_nil_p {B0 : Nat} {A : Nat → Prop} {pl : Value} {w : World} {fb : Nat} {came : Nat} {used : Int} {room steps N : Nat} (h : FsAt w fb (.map none) (.map none) (.slice none 0 0) (.map none) came used room steps false pl) (hB : B0 ≤ w.heap.size) (hA : ∀ b, w.heap.size ≤ b → A b) (hA0 : A fb) (hc : Calm pl w steps) :
    View pl A B0 w fb (.map none) (.map none) (.map none) (.slice none 0 0) came used room steps N 0 (.map []) (.map []) (.map []) [] where
  fs := h
  a0 := hA0
  ptrs := fun _ => rfl
  keys := fun l hl => by cases hl
  fold := fun X _ q hq => folder_nil q hq X
  look := fun X _ q hq => ⟨look_nil_ok X q (by unfold maxLen; omega), look_nil_at X q (by unfold maxLen; omega)⟩
  bare := fun X _ q hq => bare_nil q hq X
  file := fun X hX q hq => file_nil (hX.fs h (by simp)) q hq
  step := fun X hX hs => by
    refine (step_new_p steps (by omega) (hX.fs h (by simp)) (hc.keep hX)).mono fun e w' ⟨a1, a2, a3, a4, a5, a6⟩ => ?_
    exact ⟨a1, X.heap.size, X.heap.size + 1, X.heap.size + 2, 0, 0, 0, Nat.zero_le _, Nat.zero_le _, Nat.zero_le _, .inr (Nat.le_refl _), .inr (by omega), .inr (by omega), ⟨a2, a3, a4, a5, ⟨rfl, .inl ⟨rfl, rfl⟩⟩, by omega, by omega, by omega, Nat.le_trans hB (Nat.le_trans hX.size a6.size), hA _ hX.size, hA _ (Nat.le_trans hX.size (by omega)), hA _ (Nat.le_trans hX.size (by omega)), hA0, (fun g hg => by cases hg), fun g hg => hA g (Nat.le_trans (Nat.le_trans hX.size a6.size) hg)⟩, a6⟩
/-- A new one, whatever is planned; without power. -/
def NewP (w : World) (fb room : Nat) (pl : Value) : Prop := FsAt w fb (.map none) (.map none) (.slice none 0 0) (.map none) (0 : Nat) (0 : Int) room (0 : Nat) false pl
def GoneP (w : World) (fb room : Nat) (pl : Value) : Prop := FsAt w fb (.map none) (.map none) (.slice none 0 0) (.map none) (0 : Nat) (0 : Int) room (0 : Nat) true pl
section
variable {pl pl' : Value} {n0 : Nat} {A A' : Nat → Prop} {b : Nat} {w w' : World} {fb : Nat} {S S' : Fs} {room : Nat}
theorem NewP.view (h : NewP w fb room pl) (hc : Calm pl w 0) (N : Nat) : View pl (Wide (fun g => g = fb) w) 0 w fb (.map none) (.map none) (.map none) (.slice none 0 0) 0 0 room 0 N 0 (.map []) (.map []) (.map []) [] :=
  view_nil_p h (Nat.zero_le _) (fun _ hg => .inr hg) (.inl rfl) hc
set_option maxHeartbeats 3200000 in
set_option maxRecDepth 100000 in
theorem write_fresh_p (h : NewP w fb room pl) (hc : Calm pl w 0) (hm : MaxAt w) (hr : room ≤ 1000000000000000) (hn : 1 < n0) (hf0 : n0 ≤ fb) (p s : ByteArray) (hp : p.size ≤ 140737488355328) (hs : s.size ≤ 100000000) (hpa : pathL p.data.toList = true) (hd : (dirOf p).data.toList = []) (hroom : s.size ≤ room) :
    Calls Tryz.prog 40 #[.pointer (some ⟨fb, 0, none⟩), .string p, .string s] w fun e w' => e = .returned (.int .i64 0) ∧ RepTo pl n0 (fun g => g = fb) 1 w fb ((noFs room).fresh p s) w' := by
  have hlt := block_lt h
  have hy : folderB (.map []) (dirOf p) (pv (.map []) (dirOf p)) = true := by rw [folderB, hd]; rfl
  have hx : folderB (.map []) p (pv (.map []) p) = false := by
    rw [folderB, has_nil]
    have := ne_of_path hpa
    simpa using this
  have hnf : ¬ Full 0 room (s.size : Int) := fun hF => by
    have := hF.1
    omega
  refine (write_new (h.view hc 0) hm p s hp hs (by decide) (by decide) (by decide) (by decide) (by decide) (by decide) hr hpa hy hx rfl).mono fun e w' hr' => ?_
  rcases hr' with ⟨hF, _⟩ | ⟨_, he, _, hv2, c1, c2, c3, m1, m2, m3, done', xb, q1, q2, q3, hxb, hF', hfx, hS', hf⟩
  · exact absurd hF hnf
  · refine ⟨he, ?_⟩
    have hps := path_size p hpa
    have hpo : PaOK 1 (⟨0, p, ⟨#[]⟩, some 0⟩ : Pa) := ⟨by show 0 < 3; omega, by show p.size ≤ 1000; omega, by show 0 ≤ 1000; omega, fun x hx => by injection hx with hx; omega⟩
    have hf0' : Frm (Wide (fun g => g = fb) w) fb NoX w w' := hf NoX (fun x hx => hx.elim)
    have hO : Out (fun g => g = fb) w w' := Out.of_frm hf0'
    have hlo : ∀ g, g = fb → n0 ≤ g := fun g hg => by omega
    have hA : ∀ g, Wide (fun g => g = fb) w g → Wide (fun g => Wide (fun g => g = fb) w g ∧ g < w'.heap.size) w' g := fun g hg => by
      by_cases hl : g < w'.heap.size
      · exact .inl ⟨hg, hl⟩
      · exact .inr (by omega)
    have hn0 : n0 ≤ w.heap.size := by omega
    have hA2 : Wide (fun g => g = fb) w xb := .inr hxb
    have hok : FileOK (Wide (fun g => g = fb) w) w' fb xb := ⟨hA2, 0, s, ⟨#[]⟩, 1, hF', hfx, by omega, hs, by decide⟩
    have hk : NamesOK (Wide (fun g => g = fb) w) w' fb (fun _ _ => True) (comesD (.map []) p (.pointer (some ⟨xb, 0, none⟩))) := nmap_nil.comes p ⟨VWof (by omega) (.inr ⟨xb, rfl, hok⟩), trivial⟩
    have hnr : Nr (fun _ => xb) (comesD (.map []) p (.pointer (some ⟨xb, 0, none⟩))) (doN (noFs room).now ⟨0, p, ⟨#[]⟩, some 0⟩) := (nr_nil (fun _ => xb)).comes ⟨[], rfl⟩ ⟨0, p, ⟨#[]⟩, some 0⟩ rfl
    have huns : ∀ z : Int, Maps.has (LayTo (.map []) 0 xb s ⟨#[]⟩) (.int .i64 z) = true ↔ ∃ m : Nat, z = (m : Int) ∧ m < 1 ∧ (updF (noFs room).files 0 ⟨s, ⟨#[]⟩⟩ m).now ≠ (updF (noFs room).files 0 ⟨s, ⟨#[]⟩⟩ m).sure :=
      fun z => lay_uns ⟨[], rfl⟩ (noFs room).files 1 0 (by omega) xb s ⟨#[]⟩ (fun z => ⟨fun hz => (by cases hz), fun ⟨m, _, _, hm⟩ => absurd rfl hm⟩) z
    have hL : Laid (Wide (fun g => g = fb) w) w' fb ((noFs room).fresh p s) (comesD (.map []) p (.pointer (some ⟨xb, 0, none⟩))) (.map []) (LayTo (.map []) 0 xb s ⟨#[]⟩) (fun _ => xb) := by
      refine ⟨hnr, nr_nil _, hk, nmap_nil, fun x y hx hy _ => ?_, fun x hx => ?_, isMap_lay ⟨[], rfl⟩ _ _ _ _, huns, lay_unv (F := fun _ => xb) ⟨[], rfl⟩ 0 s ⟨#[]⟩ (fun m hm => (by cases hm))⟩
      · have hx' : x < 0 + 1 := hx
        have hy' : y < 0 + 1 := hy
        omega
      · have hx' : x < 0 + 1 := hx
        obtain rfl : x = 0 := by omega
        exact ⟨⟨1, hF'⟩, hfx, hs, by show 0 ≤ 100000000; omega, hA2⟩
    refine ⟨fun g => Wide (fun g => g = fb) w g ∧ g < w'.heap.size, fun g h => h.1, ⟨hm.base (hO.below hn0 hlo) hn, hn, Nat.le_trans hn0 hO.size, fun g hg => hg.1.elim (hlo g) (fun e => Nat.le_trans hn0 e), fun g h => h.2, Nat.le_refl _, Nat.le_refl _, Nat.le_refl _, ?_, ?_, hr, ?_, fun _ _ hx => (by cases hx), ?_, c1, c2, c3, done', m1, m2, m3, _, _, _, fun _ => xb, by omega, by omega, by omega, ?_, hL.wider hA⟩, hO⟩
    · show -(100000000 * ((1 : Nat) : Int)) ≤ 0 + (s.size : Int)
      omega
    · show 0 + (s.size : Int) ≤ 100000000 * ((1 * 1 + 1 : Nat) : Int)
      omega
    · exact NmOK.does (c := 1) (n := fun _ => none) (fun _ _ hx => by cases hx) _ hpo
    · intro a ha
      have ha' : a ∈ [(⟨0, p, ⟨#[]⟩, some 0⟩ : Pa)] := ha
      simp at ha'
      subst ha'
      exact hpo
    · exact hS'.wider hA
set_option maxHeartbeats 3200000 in
set_option maxRecDepth 100000 in
theorem crash_fresh_p (h : NewP w fb room pl) (keep tn : Int) :
    Calls Tryz.prog 12 #[.pointer (some ⟨fb, 0, none⟩), .int .u64 keep, .int .i64 tn] w fun e w' => e = .returned (.tuple #[]) ∧ GoneP w' fb room pl ∧ Kept [fb] w w' := by
  obtain ⟨W, hW⟩ : ∃ W, w.alloc (.cells #[.int .u64 keep] 30) = W := ⟨_, rfl⟩
  have hkW : Kept [] w W := by rw [← hW]; exact Kept.alloc _ _
  have hfW := hkW.fs h (by simp)
  have HD : Hid (Calls Tryz.prog 8 #[.pointer (some ⟨fb, 0, none⟩)] W fun e w' => e = .returned (.bool false) ∧ W = w') := hideIt ((dead_any hfW).mono fun _ _ h => ⟨h.1, h.2.symm⟩)
  have e2 := fs2 hfW
  have e3 := fs3 hfW
  have de := kept_enters
  have HX : Hid (Calls Tryz.prog 26 #[.func (.func 51) #[] #[.pointer (some ⟨W.heap.size, 0, none⟩)]] (W.alloc (.cells #[.map none] 52)) fun e w' => ∃ (a : Option Addr) (c : Nat), e = .returned (.slice a 0 c) ∧ Kept [] W w') := hideIt ((sorted_nil _ W.heap.size (cellAt (alloc_at rfl) rfl) (by simp)).mono fun e w' ⟨a, c, he, hk⟩ => ⟨a, c, he, ((Kept.alloc _ _).trans hk).sub (by simp)⟩)
  have HF := hideIt hfW
  have HKW := hideIt hkW
  clear hfW hkW h
  go_enter Tryz.func12, Tryz.ntmps12
  go_wp2_with (first | (go_at_call 8; refine HD.out.mono ?_; rintro e wx ⟨rfl, rfl⟩))
  refine wp_loop_rounds 1 ?_
  rw [rounds_succ]
  go_wp2_with (first | (go_at_call 27; refine (keys_any none _).mono ?_; rintro e wy ⟨rfl, rfl⟩) | (go_at_call 26; refine HX.out.mono ?_; rintro e w4 ⟨sa, sc, rfl, hk4⟩; have h4 := hk4.fs HF.out (by simp); have g1 := fs1 h4; have g0 := fs0 h4; have g0f := thawAt h4 0; have HK4 := hideIt hk4; have HH4 := hideIt h4; clear hk4 h4))
  refine wp_loop_rounds 1 ?_
  rw [rounds_succ]
  have cn := clear_none
  obtain ⟨w6, h6⟩ : ∃ w6, (w4.setCell ⟨fb, 0, none⟩ (.map none)).setCell ⟨fb, 2, none⟩ (.slice none 0 0) = w6 := ⟨_, rfl⟩
  have hA : FsAt (w4.setCell ⟨fb, 0, none⟩ (.map none)) fb (.map none) (.map none) (.slice none 0 0) (.map none) 0 0 room 0 false pl := by
    have := HH4.out
    unfold FsAt at this ⊢
    rw [heap_setCell_same w4 fb 0 _ 54 _ this]
    rfl
  have hB : FsAt w6 fb (.map none) (.map none) (.slice none 0 0) (.map none) 0 0 room 0 false pl := by
    rw [← h6]
    unfold FsAt at hA ⊢
    rw [heap_setCell_same _ fb 2 _ 54 _ hA]
    rfl
  have a2 := fs2 hA
  have a2f := thawAt hA 2
  have b3 := fs3 hB
  have HB := hideIt hB
  have HKB : Hid (Kept [fb] w w6) := hideIt (by rw [← h6]; exact (((HKW.out.trans HK4.out).trans (Kept.set fb 0 _)).trans (Kept.set fb 2 _)).sub (by simp))
  have HC := hideIt (count_nil hB)
  clear hA hB
  go_wp2_with (first | (go_at_call 29; refine (clone_nil _).mono ?_; rintro e w5 ⟨rfl, hw5⟩; obtain rfl := hw5.symm) | (rw [h6] at *; go_at_call 30; refine HC.out.mono ?_; rintro e w7 ⟨rfl, h7, hk7⟩; have z9 := fs9 h7; have z9f := thawAt h7 9; have HH7 := hideIt h7; have HK7 := hideIt hk7; clear h7 hk7) | (go_at_call 30; refine HC.out.mono ?_; rintro e w7 ⟨rfl, h7, hk7⟩; have z9 := fs9 h7; have z9f := thawAt h7 9; have HH7 := hideIt h7; have HK7 := hideIt hk7; clear h7 hk7))
  refine bodyPost_end (results_none Tryz.results12 _ _ _) rfl ⟨rfl, ?_, ((HKB.out.trans HK7.out).trans (Kept.set fb 9 _)).sub (by simp)⟩
  have := HH7.out
  unfold GoneP FsAt at *
  rw [heap_setCell_same w7 fb 9 _ 54 _ this]
  rfl
end
section
variable {A : Nat → Prop} {pl : Value} {w : World} {fb : Nat} {nv sv uv done : Value} {came : Nat} {used : Int} {room steps : Nat} {D1 : DataW Value} {T : World → Prop}
set_option maxHeartbeats 3200000 in
set_option maxRecDepth 100000 in
theorem read_look (hV : Look pl w fb nv sv uv done came used room steps D1) (hm : MaxAt w) (p : ByteArray) (hp : p.size ≤ 140737488355328) (hP : ∀ q, PtrOK A w fb (pv D1 q)) :
    Calls Tryz.prog 32 #[.pointer (some ⟨fb, 0, none⟩), .string p] w fun e w' => ReadTo w D1 p e w' := by
  obtain ⟨W, hW⟩ : ∃ W, w.alloc (.cells #[.string p] 9) = W := ⟨_, rfl⟩
  have hkW : Kept [] w W := by rw [← hW]; exact Kept.alloc _ _
  have hrow : W.heap[w.heap.size]? = some (.cells #[.string p] 9 (0, 0)) := by rw [← hW]; exact alloc_at rfl
  have hf := hkW.fs hV.fs (by simp)
  have HH := hideIt (hindered_one hf (hkW.max hm (by simp)) p hp w.heap.size 9 hrow)
  have HF : Hid (∀ X, Below W.heap.size W X → Kept [] w X) := hideIt (fun X hX => (hkW.trans (Kept.of_below hX)).sub (by simp))
  cases hpath : pathL p.data.toList with
  | false =>
    have he : errPath p = 30 := by rw [errPath, if_neg (by rw [hpath]; simp)]
    rw [he] at HH
    have HE : Hid (syE D1 p = 30) := hideIt (by rw [syE, if_neg (by rw [hpath]; simp)])
    clear hV hm hrow hf hkW he hP
    go_enter Tryz.func32, Tryz.ntmps32
    go_wp2_with (first | (go_at_call 54; refine HH.out.mono ?_; rintro e w1 ⟨rfl, hb1⟩))
    go_ret2
    exact read_no HE.out (by decide) (HF.out _ hb1)
  | true =>
    have he : errPath p = 0 := by rw [errPath, if_pos hpath]
    rw [he] at HH
    have hps := path_size p hpath
    obtain ⟨z, hz⟩ : ∃ z, Maps.has D1 (key p) = z := ⟨_, rfl⟩
    obtain ⟨v, hv⟩ : ∃ v, pv D1 p = v := ⟨_, rfl⟩
    have HFI := hideIt (fun X hX => hV.file X hX p (by omega))
    rw [hz, hv] at HFI
    have hPp := hP p
    rw [hv] at hPp
    have HE : Hid (syE D1 p = if z then (if v.isSome then 0 else 31) else 2) := hideIt (by rw [syE, if_pos hpath, hz, hv])
    have HVV := hideIt hv
    clear hV hm hrow hf hkW he hz hv hpath hP
    cases z with
    | false =>
      go_enter Tryz.func32, Tryz.ntmps32
      go_wp2_with (first | (go_at_call 54; refine HH.out.mono ?_; rintro e w1 ⟨rfl, hb1⟩; have HK1 := hideIt (HF.out w1 hb1)) | (go_at_call 55; refine (HFI.out _ HK1.out).mono ?_; rintro e wx ⟨rfl, hwx⟩; obtain rfl := hwx.symm; simp only [fileR]))
      go_ret2
      exact read_no (E := 2) HE.out (by decide) HK1.out
    | true =>
      rcases hPp with rfl | ⟨xb, rfl, hAx, num, now, sure, links, hFx, hfx, hnum, hns, hss⟩
      · go_enter Tryz.func32, Tryz.ntmps32
        go_wp2_with (first | (go_at_call 54; refine HH.out.mono ?_; rintro e w1 ⟨rfl, hb1⟩; have HK1 := hideIt (HF.out w1 hb1)) | (go_at_call 55; refine (HFI.out _ HK1.out).mono ?_; rintro e wx ⟨rfl, hwx⟩; obtain rfl := hwx.symm; simp only [fileR]))
        go_ret2
        exact read_no (E := 31) HE.out (by decide) HK1.out
      · have HX : Hid (∀ X, Kept [] w X → X.cell? ⟨xb, 1, none⟩ = some (.string now)) := hideIt (fun X hX => fl1 (hX.fs hFx (by simp)))
        have HFX := hideIt hFx
        clear hFx
        go_enter Tryz.func32, Tryz.ntmps32
        go_wp2_with (first | (go_at_call 54; refine HH.out.mono ?_; rintro e w1 ⟨rfl, hb1⟩; have HK1 := hideIt (HF.out w1 hb1); have x1 := HX.out w1 HK1.out) | (go_at_call 55; refine (HFI.out _ HK1.out).mono ?_; rintro e wx ⟨rfl, hwx⟩; obtain rfl := hwx.symm; simp only [fileR]))
        go_ret2
        exact .inr ⟨HE.out, xb, num, now, sure, links, HVV.out, HFX.out, rfl, HK1.out⟩
set_option maxHeartbeats 3200000 in
set_option maxRecDepth 100000 in
theorem remove_look (hV : Look pl w fb nv sv uv done came used room steps D1) (hm : MaxAt w) (p : ByteArray) (hp : p.size ≤ 140737488355328) (hpath : pathL p.data.toList = true) (hz : Maps.has D1 (key p) = false) :
    Calls Tryz.prog 53 #[.pointer (some ⟨fb, 0, none⟩), .string p] w fun e w' => e = .returned (.int .i64 2) ∧ Kept [] w w' := by
  obtain ⟨W, hW⟩ : ∃ W, w.alloc (.cells #[.string p] 9) = W := ⟨_, rfl⟩
  have hkW : Kept [] w W := by rw [← hW]; exact Kept.alloc _ _
  have hrow : W.heap[w.heap.size]? = some (.cells #[.string p] 9 (0, 0)) := by rw [← hW]; exact alloc_at rfl
  have hf := hkW.fs hV.fs (by simp)
  have HH := hideIt (hindered_one hf (hkW.max hm (by simp)) p hp w.heap.size 9 hrow)
  have HF : Hid (∀ X, Below W.heap.size W X → Kept [] w X ∧ FsAt X fb nv sv done uv came used room steps false pl) := hideIt (fun X hX => ⟨(hkW.trans (Kept.of_below hX)).sub (by simp), (Kept.of_below hX).fs hf (by simp)⟩)
  have he : errPath p = 0 := by rw [errPath, if_pos hpath]
  rw [he] at HH
  have hps := path_size p hpath
  have HL := hideIt (fun X hX => (hV.look X hX p (by omega)).1)
  rw [hz] at HL
  clear hV hm hrow hf hkW he hz hpath
  go_enter Tryz.func53, Tryz.ntmps53
  go_wp2_with (first | (go_at_call 54; refine HH.out.mono ?_; rintro e w1 ⟨rfl, hb1⟩; obtain ⟨hk1, hf1⟩ := HF.out w1 hb1; have d0 := fs0 hf1; have HK1 := hideIt hk1; have hl := HL.out w1 hk1; clear hk1 hf1))
  go_ret
  exact ⟨rfl, HK1.out⟩
end
set_option maxHeartbeats 3200000 in
set_option maxRecDepth 100000 in
theorem step_gen {w X : World} {fb : Nat} {nv sv dv uv : Value} {came used room : Int} {pl : Value} {g s : Nat} {t k n : Int} {T : World → Prop} (hp : PlanAt w pl g t k n) (ht : t = (s : Int)) (hX : Kept [] w X) (hfs : FsAt X fb nv sv dv uv came used room (s : Nat) false pl)
    (hT : ∀ (Z Q : World) (pl' : Value), Quiet pl' → Kept [] X Z → Kept [] (Z.setCell ⟨fb, 8, none⟩ pl') Q → Calls Tryz.prog 12 #[.pointer (some ⟨fb, 0, none⟩), .int .u64 k, .int .i64 n] Q fun e w' => e = .returned (.tuple #[]) ∧ T w') :
    Calls Tryz.prog 64 #[.pointer (some ⟨fb, 0, none⟩)] X fun e w' => e = .returned (.int .i64 7) ∧ T w' := by
  obtain ⟨c, cur, rfl, hc1, hc2, hg, h4, h5, h6⟩ := hp
  have hgX := hX.fs hg (by simp)
  have c0 := cellAt hgX h4
  have c1 := cellAt hgX h5
  have c2 := cellAt hgX h6
  have f8 := fs8 hfs
  have f7 := fs7 hfs
  have t8 := thawAt hfs 8
  subst ht
  have HCR := hideIt hT
  have hfbX : fb < X.heap.size := block_lt hfs
  have hka : Kept [] X (X.drew.alloc (.cells #[.int .i64 (s : Int), .int .u64 k, .int .i64 n] 32)) := (((Kept.refl [] X).drew).trans (Kept.alloc _ _)).sub (by simp)
  have hfa := hka.fs hfs (by simp)
  have a8 := fs8 hfa
  have ta8 := thawAt hfa 8
  have hq : ∀ v, ((X.drew.alloc (.cells #[.int .i64 (s : Int), .int .u64 k, .int .i64 n] 32)).setCell ⟨fb, 8, none⟩ v).heap[X.heap.size]? = some (.cells #[.int .i64 (s : Int), .int .u64 k, .int .i64 n] 32 (0, 0)) := fun v => by
    rw [heap_setCell_other _ ⟨fb, 8, none⟩ _ _ (by first | (show X.heap.size ≠ fb; omega) | (show fb ≠ X.heap.size; omega))]
    exact alloc_at rfl
  have q0 := fun v => cellAt (i := 0) (hq v) rfl
  have q1 := fun v => cellAt (i := 1) (hq v) rfl
  have q2 := fun v => cellAt (i := 2) (hq v) rfl
  have q7 : ∀ v, ((X.drew.alloc (.cells #[.int .i64 (s : Int), .int .u64 k, .int .i64 n] 32)).setCell ⟨fb, 8, none⟩ v).cell? ⟨fb, 7, none⟩ = some (.int .i64 (s : Int)) := fun v => by
    have h1 := heap_setCell_same _ fb 8 _ 54 v hfa
    exact cellAt h1 rfl
  have HQQ : Hid (Kept [] (X.setCell ⟨fb, 8, none⟩ (.slice (some ⟨g, 0, none⟩) 0 0)) ((X.setCell ⟨fb, 8, none⟩ (.slice (some ⟨g, 0, none⟩) 0 0)).alloc (.cells #[.int .i64 (s : Int), .int .u64 k, .int .i64 n] 32)).drew.drew) := hideIt (((Kept.alloc _ _).drew).drew)
  have d1 : decide ((s : Int) ≤ (s : Int)) = true := decide_eq_true (Int.le_refl _)
  have c3 : (1 : Int) ≤ (c : Int) := by omega
  clear hT hfs hgX hg h4 h5 h6 hX hq hfa hka
  rcases Nat.lt_or_ge 1 c with hc | hc
  · obtain ⟨c4, hc4⟩ : ∃ c4, c - 1 = c4 := ⟨_, rfl⟩
    have c5 : (c : Int) - 1 = (c4 : Int) := by omega
    have c6 : ¬ c4 = 0 := by omega
    have c7 : (1 : Int) < (c : Int) := by omega
    go_enter Tryz.func64, Tryz.ntmps64
    go_wp2
    refine wp_loop_rounds 1 ?_
    rw [rounds_succ]
    go_wp2
    go_region
    go_wp2
    go_region
    go_wp2_with (first | (go_at_call 12; refine (HCR.out X _ _ ⟨_, _, rfl⟩ (Kept.refl [] X) (by exact ((Kept.alloc _ _).drew).drew)).mono ?_; rintro e w2 ⟨rfl, hs2⟩))
    go_ret
    exact ⟨rfl, hs2⟩
  · obtain rfl : c = 1 := by omega
    go_enter Tryz.func64, Tryz.ntmps64
    go_wp2
    refine wp_loop_rounds 1 ?_
    rw [rounds_succ]
    go_wp2
    go_region
    go_wp2
    go_region
    go_wp2_with (first | (go_at_call 12; refine (HCR.out X _ _ ⟨_, _, rfl⟩ (Kept.refl [] X) HQQ.out).mono ?_; rintro e w2 ⟨rfl, hs2⟩))
    go_ret
    exact ⟨rfl, hs2⟩
section
variable {pl pl' : Value} {n0 : Nat} {A A' : Nat → Prop} {b : Nat} {w w' : World} {fb : Nat} {S S' : Fs} {room g : Nat} {t k n : Int}
/-- A fall that strikes where nothing was done. -/
theorem write_struck_p (h : NewP w fb room pl) (hm : MaxAt w) (hr : room ≤ 1000000000000000) (hp : PlanAt w pl g t k n) (ht : t = 0) (p s : ByteArray) (hps : p.size ≤ 140737488355328) (hs : s.size ≤ 100000000) (hpa : pathL p.data.toList = true) (hd : (dirOf p).data.toList = []) (hroom : s.size ≤ room) :
    Calls Tryz.prog 40 #[.pointer (some ⟨fb, 0, none⟩), .string p, .string s] w fun e w' => e = .returned (.int .i64 7) ∧ ∃ pl', Quiet pl' ∧ GoneP w' fb room pl' ∧ Kept [fb] w w' := by
  have hy : folderB (.map []) (dirOf p) (pv (.map []) (dirOf p)) = true := by rw [folderB, hd]; rfl
  have hx : folderB (.map []) p (pv (.map []) p) = false := by
    rw [folderB, has_nil]
    have := ne_of_path hpa
    simpa using this
  have hnf : ¬ Full 0 room (s.size : Int) := fun hF => by
    have := hF.1
    omega
  refine write_strike (look_nil h) hm p s hps hs (by decide) (by decide) hr hpa hy hx rfl hnf (fun X hX => ?_)
  have hfX := hX.fs h (by simp)
  refine step_gen (s := 0) hp ht hX hfX (fun Z Q pl' hq hZ hQ => ?_)
  have hfZ := hZ.fs hfX (by simp)
  have hfS : NewP (Z.setCell ⟨fb, 8, none⟩ pl') fb room pl' := by
    unfold NewP FsAt
    rw [heap_setCell_same Z fb 8 _ 54 _ hfZ]
    rfl
  have hfQ : NewP Q fb room pl' := hQ.fs hfS (by simp)
  exact (crash_fresh_p hfQ k n).mono fun e w' ⟨he, hg, hk⟩ => ⟨he, pl', hq, hg, ((((hX.trans hZ).trans (Kept.set fb 8 pl')).trans hQ).trans hk).sub (by simp)⟩
theorem remove_p (h : NewP w fb room pl) (hm : MaxAt w) (p : ByteArray) (hp : p.size ≤ 140737488355328) (hpa : pathL p.data.toList = true) :
    Calls Tryz.prog 53 #[.pointer (some ⟨fb, 0, none⟩), .string p] w fun e w' => e = .returned (.int .i64 2) ∧ Kept [] w w' := remove_look (look_nil h) hm p hp hpa rfl
theorem read_p (h : NewP w fb room pl) (hm : MaxAt w) (p : ByteArray) (hp : p.size ≤ 140737488355328) (hpa : pathL p.data.toList = true) :
    Calls Tryz.prog 32 #[.pointer (some ⟨fb, 0, none⟩), .string p] w fun e w' => e = .returned (.tuple #[.string ⟨#[]⟩, .int .i64 2]) ∧ Kept [] w w' := by
  have e2 : syE (.map []) p = 2 := by rw [syE, if_pos hpa, has_nil]; rfl
  refine (read_look (A := fun _ => True) (look_nil h) hm p hp noPtr).mono fun e w' hr => ?_
  rcases hr with ⟨_, he, hk⟩ | ⟨hE, _⟩
  · rw [e2] at he
    exact ⟨he, hk⟩
  · rw [e2] at hE
    cases hE
theorem Rep.remove_none (h : Rep pl n0 A b w fb S) (p : ByteArray) (hp : p.size ≤ 140737488355328) (hpa : pathL p.data.toList = true) (h0 : S.now p = none) :
    Calls Tryz.prog 53 #[.pointer (some ⟨fb, 0, none⟩), .string p] w fun e w' => e = .returned (.int .i64 2) ∧ Kept [] w w' := by
  obtain ⟨b1, sv, uv, done, n1, D1, F, hL, hN, _⟩ := h.looks
  exact remove_look hL h.max p hp hpa (by rw [hN.has, h0]; rfl)
theorem Rep.read (h : Rep pl n0 A b w fb S) (p : ByteArray) (hp : p.size ≤ 140737488355328) :
    Calls Tryz.prog 32 #[.pointer (some ⟨fb, 0, none⟩), .string p] w fun e w' => Kept [] w w' ∧ ((S.syE p ≠ 0 ∧ e = .returned (.tuple #[.string ⟨#[]⟩, .int .i64 (S.syE p)])) ∨ (S.syE p = 0 ∧ ∃ x, S.now p = some (some x) ∧ x < S.came ∧ e = .returned (.tuple #[.string (S.files x).now, .int .i64 0]))) := by
  obtain ⟨b1, b2, b3, done, n1, n2, n3, D1, D2, D3, F, e1, e2, e3, hS, hL⟩ := h.laid
  obtain ⟨h1, h2, hP⟩ := hL.k1.wellP
  rw [← syE_eq hL.nr1 p]
  refine (read_look (look_some hS h1 h2) h.max p hp hP).mono fun e w' hr => ?_
  rcases hr with ⟨hE, he, hk⟩ | ⟨hE, xb, num, now, sure, links, hv, hF, he, hk⟩
  · exact ⟨hk, .inl ⟨hE, he⟩⟩
  · refine ⟨hk, .inr ⟨hE, ?_⟩⟩
    rw [hL.nr1.pv p] at hv
    cases hx : pvN S.now p with
    | none => rw [hx] at hv; cases hv
    | some x =>
      rw [hx] at hv
      simp [ptrOf] at hv
      have hlt := pvN_lt h.o1 p x hx
      have hn : S.now p = some (some x) := by
        unfold pvN at hx
        cases hq : S.now p with
        | none => rw [hq] at hx; cases hx
        | some v => rw [hq] at hx; subst hx; rfl
      refine ⟨x, hn, hlt, ?_⟩
      obtain ⟨⟨l, hF2⟩, _⟩ := hL.files x hlt
      rw [← hv] at hF
      unfold FileAt at hF hF2
      rw [hF2] at hF
      simp only [Option.some.injEq, Obj.cells.injEq, filev] at hF
      have e3 := hF.1
      simp at e3
      rw [he, e3.2.1]
end
end Go.Proofs.YtknmmlfdlfioiaaGreatDoor.Vc
