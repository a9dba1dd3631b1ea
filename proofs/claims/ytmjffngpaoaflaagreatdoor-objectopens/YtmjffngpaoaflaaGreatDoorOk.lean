/- A commit of a body, walked. -/
import Derived.Test.YtmjffngpaoaflaaGreatDoorOj
import Derived.Deep.RegionLaw
namespace Go.Proofs.YtmjffngpaoaflaaGreatDoor
namespace Ob
open Go.RowKit Go.Shelf
def cmZ : Cm := ⟨⟨#[]⟩, .slice none 0 0, [], ⟨#[]⟩, 0, ⟨#[]⟩⟩
/-- The parents that the lines of a body tell, what stands behind them, and whether all are of the form. -/
def gPs : Nat → List UInt8 → List ByteArray × List UInt8 × Bool
  | 0, L => ([], L, true)
  | f + 1, L => if hasW parentW L = true then (unhB (tkT parentW L) :: (gPs f (tkR L)).1, (gPs f (tkR L)).2.1, tkO parentW L && idO (tkT parentW L) && (gPs f (tkR L)).2.2) else ([], L, true)
theorem hasW_ne {wd L : List UInt8} (h : hasW wd L = true) : L ≠ [] := by
  intro e
  subst e
  unfold hasW at h
  cases wd <;> simp at h
theorem tkR_less {L : List UInt8} (h : L ≠ []) : (tkR L).length < L.length := by
  unfold tkR fsl
  cases hc : cutc 10 L with
  | none => simp; exact List.length_pos_iff.2 h
  | some p =>
    obtain ⟨a, r⟩ := p
    obtain ⟨e, -⟩ := cutc_some 10 L a r hc
    have := congrArg List.length e
    simp at this
    simp only
    omega
/-- How much a reader has left. -/
def restOf (w : World) (N : Nat) : Nat := match w.cell? ⟨N, 0, none⟩ with
  | some (.string s) => s.size
  | _ => 0
/-- What stands in memory while a commit is read. -/
structure GC (w0 : World) (M : Nat) (rest : List UInt8) (bd : Bool) (c : Cm) (w : World) : Prop where
  rd : Rdr w (w0.heap.size + 1) (bs rest) bd
  res : CBox w w0.heap.size 42 cmZ
  cb : CBox w M 42 c
  far : w0.heap.size + 2 ≤ M
  bel : Below w0.heap.size w0 w
  row : w.ownsRow (M + 1) 9 1 c.pv c.ps.length (c.ps.map .string)
theorem row_ge1 {B n : Nat} {t : TypeId} {v : Value} {xs : List Value} {w : World} (h : w.ownsRow B t 1 v n xs) : ∀ k, v.ownBlock = some k → B ≤ k := by
  intro k hk
  rcases h.2 with ⟨e, _⟩ | ⟨g, cap, cur, e, h1, _⟩
  · subst e; simp [Value.ownBlock] at hk
  · subst e; simp [Value.ownBlock] at hk; omega
theorem row_form {B n : Nat} {t : TypeId} {v : Value} {xs : List Value} {w : World} (h : w.ownsRow B t 1 v (n + 1) xs) : ∃ g c, v = .slice (some ⟨g, 0, none⟩) (n + 1) c := by
  rcases h.2 with ⟨_, e⟩ | ⟨g, cap, cur, e, _⟩
  · omega
  · exact ⟨g, cap, e⟩
theorem row_kept {B n : Nat} {t : TypeId} {v : Value} {xs : List Value} {w w' : World} (h : w.ownsRow B t 1 v n xs) {k : Nat} (hk : k < B) (hg : w.grownBy w' (some k)) : w'.ownsRow B t 1 v n xs := by
  refine h.kept hg ?_
  cases hv : v.ownBlock with
  | none => exact .inl rfl
  | some g =>
    refine .inr (fun e => ?_)
    have := row_ge1 h g hv
    simp only [Option.some.injEq] at e
    omega
theorem row_below {B n : Nat} {t : TypeId} {v : Value} {xs : List Value} {w w' : World} (h : w.ownsRow B t 1 v n xs) (hb : Below w.heap.size w w') : w'.ownsRow B t 1 v n xs := by
  refine h.kept (grown_of hb none) ?_
  cases hv : v.ownBlock with
  | none => exact .inl rfl
  | some g => exact .inr (by simp)
theorem GC.below {w0 w w' : World} {M : Nat} {rest : List UInt8} {bd : Bool} {c : Cm} (h : GC w0 M rest bd c w) (hb : Below w.heap.size w w') : GC w0 M rest bd c w' :=
  ⟨h.rd.below hb, h.res.below hb, h.cb.below hb, h.far, below2 h.bel hb, row_below h.row hb⟩
theorem GC.take {w0 w w' : World} {M : Nat} {rest rest' : List UInt8} {bd bd' : Bool} {c : Cm} (h : GC w0 M rest bd c w) (hr : Rdr w' (w0.heap.size + 1) (bs rest') bd') (hg : w.grownBy w' (some (w0.heap.size + 1))) : GC w0 M rest' bd' c w' :=
  ⟨hr, h.res.grown hg (by omega), h.cb.grown hg (by have := h.far; omega), h.far, h.bel.grown hg (h.bel.size) (fun k hk => by simp at hk; omega), row_kept h.row (by have := h.far; omega) hg⟩
theorem GC.put {w0 w w' : World} {M : Nat} {rest : List UInt8} {bd : Bool} {c c' : Cm} (h : GC w0 M rest bd c w) (hg : w.grownBy w' (some M)) (hc : CBox w' M 42 c') (he : c'.pv = c.pv ∧ c'.ps = c.ps) : GC w0 M rest bd c' w' :=
  ⟨h.rd.grown hg (by have := h.far; omega), h.res.grown hg (by have := h.far; omega), hc, h.far, h.bel.grown hg (h.bel.size) (fun k hk => by have := h.far; simp at hk; omega), by rw [he.1, he.2]; exact row_kept h.row (by omega) hg⟩
theorem CBox.set2 {w : World} {N : Nat} {T : TypeId} {c : Cm} (h : CBox w N T c) (s : ByteArray) : CBox (w.setCell ⟨N, 2, none⟩ (.string s)) N T { c with au := s } := ⟨by simp [World.setCell, h.blk, Array.getElem?_modify]⟩
theorem CBox.set3 {w : World} {N : Nat} {T : TypeId} {c : Cm} (h : CBox w N T c) (k : Nat) : CBox (w.setCell ⟨N, 3, none⟩ (.int .u64 (k : Int))) N T { c with tm := k } := ⟨by simp [World.setCell, h.blk, Array.getElem?_modify]⟩
theorem CBox.set4 {w : World} {N : Nat} {T : TypeId} {c : Cm} (h : CBox w N T c) (s : ByteArray) : CBox (w.setCell ⟨N, 4, none⟩ (.string s)) N T { c with tx := s } := ⟨by simp [World.setCell, h.blk, Array.getElem?_modify]⟩
theorem CBox.set1 {w : World} {N : Nat} {T : TypeId} {c : Cm} (h : CBox w N T c) (v : Value) (l : List ByteArray) : CBox (w.setCell ⟨N, 1, none⟩ v) N T { c with pv := v, ps := l } := ⟨by simp [World.setCell, h.blk, Array.getElem?_modify]⟩
theorem GC.set2 {w0 w : World} {M : Nat} {rest : List UInt8} {bd : Bool} {c : Cm} (h : GC w0 M rest bd c w) (s : ByteArray) : GC w0 M rest bd { c with au := s } (w.setCell ⟨M, 2, none⟩ (.string s)) := h.put (grown_set _ _ _ _) (h.cb.set2 s) ⟨rfl, rfl⟩
theorem GC.set3 {w0 w : World} {M : Nat} {rest : List UInt8} {bd : Bool} {c : Cm} (h : GC w0 M rest bd c w) (k : Nat) : GC w0 M rest bd { c with tm := k } (w.setCell ⟨M, 3, none⟩ (.int .u64 (k : Int))) := h.put (grown_set _ _ _ _) (h.cb.set3 k) ⟨rfl, rfl⟩
theorem GC.set4 {w0 w : World} {M : Nat} {rest : List UInt8} {bd : Bool} {c : Cm} (h : GC w0 M rest bd c w) (s : ByteArray) : GC w0 M rest bd { c with tx := s } (w.setCell ⟨M, 4, none⟩ (.string s)) := h.put (grown_set _ _ _ _) (h.cb.set4 s) ⟨rfl, rfl⟩
theorem GC.start {w0 W0 w1 : World} {rest : List UInt8} {bd : Bool} (hb : Below w0.heap.size w0 W0) (hz : CBox W0 w0.heap.size 42 cmZ) (hs : w0.heap.size + 2 ≤ W0.heap.size) (hr : Rdr w1 (w0.heap.size + 1) (bs rest) bd) (hg : W0.grownBy w1 (some (w0.heap.size + 1))) (s : ByteArray) :
    GC w0 w1.heap.size rest bd ⟨s, .slice none 0 0, [], ⟨#[]⟩, 0, ⟨#[]⟩⟩ (w1.alloc (.cells #[.string s, .slice none 0 0, .string ⟨#[]⟩, .int .u64 0, .string ⟨#[]⟩] 42)) := by
  have h1 : Below w0.heap.size w0 w1 := hb.grown hg hb.size (fun k hk => by simp at hk; omega)
  have hz1 : CBox w1 w0.heap.size 42 cmZ := hz.grown hg (by omega)
  have hn := new_below w1 (.cells #[.string s, .slice none 0 0, .string ⟨#[]⟩, .int .u64 0, .string ⟨#[]⟩] 42)
  exact ⟨hr.below hn, hz1.below hn, ⟨Cb.alloc_at rfl⟩, Nat.le_trans hs hg.size, below2 h1 hn, ⟨rfl, .inl ⟨rfl, rfl⟩⟩⟩
theorem Rdr.grownO {w w' : World} {N : Nat} {r : Option Nat} {s : ByteArray} {b : Bool} (h : Rdr w N s b) (hg : w.grownBy w' r) (hne : some N ≠ r) : Rdr w' N s b := ⟨(hg.block N h.lt hne).trans h.blk⟩
theorem CBox.grownO {w w' : World} {N : Nat} {r : Option Nat} {T : TypeId} {c : Cm} (h : CBox w N T c) (hg : w.grownBy w' r) (hne : some N ≠ r) : CBox w' N T c := ⟨(hg.block N h.lt hne).trans h.blk⟩
theorem GC.append {w0 w1 w3 : World} {M : Nat} {rest : List UInt8} {bd : Bool} {c : Cm} (h : GC w0 M rest bd c w1) {o : Obj} {v3 : Value} {U : ByteArray} (hg : (w1.alloc o).grownBy w3 c.pv.ownBlock) (hown : w3.ownsRow (M + 1) 9 1 v3 (c.ps.length + 1) (c.ps.map .string ++ [.string U])) :
    CBox w3 M 42 c ∧ GC w0 M rest bd { c with pv := v3, ps := c.ps ++ [U] } (w3.setCell ⟨M, 1, none⟩ v3) := by
  have hn := new_below w1 o
  have ne : ∀ k, k ≤ M → some k ≠ c.pv.ownBlock := fun k hk e => by
    have := row_ge1 h.row k e.symm
    omega
  have hf := h.far
  have hc3 : CBox w3 M 42 c := (h.cb.below hn).grownO hg (ne M (by omega))
  have hgs := grown_set w3 M 1 v3
  refine ⟨hc3, ⟨((h.rd.below hn).grownO hg (ne _ (by omega))).grown hgs (by omega), ((h.res.below hn).grownO hg (ne _ (by omega))).grown hgs (by omega), hc3.set1 v3 _, hf, ?_, ?_⟩⟩
  · have b1 : Below w0.heap.size w0 w3 := (below2 h.bel hn).grown hg ((below2 h.bel hn).size) (fun k hk => by have := row_ge1 h.row k hk; omega)
    exact b1.grown hgs b1.size (fun k hk => by simp at hk; omega)
  · show (w3.setCell ⟨M, 1, none⟩ v3).ownsRow (M + 1) 9 1 v3 (c.ps ++ [U]).length ((c.ps ++ [U]).map .string)
    rw [List.length_append, List.map_append]
    exact row_kept hown (by omega) hgs
theorem GC.drew {w0 w : World} {M : Nat} {rest : List UInt8} {bd : Bool} {c : Cm} (h : GC w0 M rest bd c w) : GC w0 M rest bd c w.drew := h.below ((Below.refl _ _).drew)
theorem infoS : (Tryz.prog.info? 9).map (fun i => (i.zero, i.size, i.bytes)) = some (some (.string ⟨#[]⟩), 1, 16) := by kernel_rfl
theorem one_str {w : World} (U : ByteArray) (j : Nat) (u : Value) (h : [Value.string U][j]? = some u) : (w.alloc (.cells #[.string U] 9)).cell? ((⟨w.heap.size, 0, none⟩ : Addr).add j) = some u := by
  rw [Addr.add_lit, Nat.zero_add, World.cell?_alloc_at _ _ _ _ rfl]
  match j, h with
  | 0, h => simpa using h
theorem gPs_step (f : Nat) (L : List UInt8) (hf : L.length ≤ f) (h : hasW parentW L = true) : ∃ g, (tkR L).length ≤ g ∧ gPs f L = (unhB (tkT parentW L) :: (gPs g (tkR L)).1, (gPs g (tkR L)).2.1, tkO parentW L && idO (tkT parentW L) && (gPs g (tkR L)).2.2) := by
  have := tkR_less (hasW_ne h)
  cases f with
  | zero => omega
  | succ f => exact ⟨f, by omega, by rw [gPs, if_pos h]⟩
theorem gPs_end (f : Nat) (L : List UInt8) (h : hasW parentW L = false) : gPs f L = ([], L, true) := by
  cases f with
  | zero => rfl
  | succ f => rw [gPs, if_neg (by rw [h]; decide)]
/-- Is a body of a commit's form? -/
def gCo (L : List UInt8) : Bool := tkO treeW L && idO (tkT treeW L) && (gPs (tkR L).length (tkR L)).2.2 && tkO authorW (gPs (tkR L).length (tkR L)).2.1 && (tkO timeW (tkR (gPs (tkR L).length (tkR L)).2.1) && undO (tkT timeW (tkR (gPs (tkR L).length (tkR L)).2.1))) && txO (tkR (tkR (gPs (tkR L).length (tkR L)).2.1))
/-- The commit that a body's lines tell. -/
def gCm (L : List UInt8) : Cm := ⟨unhB (tkT treeW L), .slice none 0 0, (gPs (tkR L).length (tkR L)).1, bs (tkT authorW (gPs (tkR L).length (tkR L)).2.1), undN (tkT timeW (tkR (gPs (tkR L).length (tkR L)).2.1)), bs (txT (tkR (tkR (gPs (tkR L).length (tkR L)).2.1)))⟩
def gCz (L : List UInt8) : Int := if gCo L = true then comE (gCm L) else 6
def GetTo (w : World) (L : List UInt8) (e : Ending) (w' : World) : Prop := ∃ c : Cm, e = .returned (.tuple #[cmV c, .int .i64 (gCz L)]) ∧ SRow w' c.pv c.ps ∧ (gCz L = 0 → c = { gCm L with pv := c.pv }) ∧ (gCz L ≠ 0 → c = cmZ) ∧ Below w.heap.size w w'
theorem SRow.of_row {w : World} {B : Nat} {v : Value} {l : List ByteArray} (h : w.ownsRow B 9 1 v l.length (l.map .string)) : SRow w v l := by
  rcases h.2 with ⟨e, h0⟩ | ⟨g, cap, cur, e, h1, hg, h2, h3, r⟩
  · exact ⟨none, 0, by rw [e, h0], by omega, ⟨by unfold maxLen; omega, fun _ => rfl⟩, fun hp => by omega⟩
  · subst e
    have hlt : g < w.heap.size := by
      rcases Nat.lt_or_ge g w.heap.size with h' | h'
      · exact h'
      · simp [Array.getElem?_eq_none h'] at hg
    refine ⟨some ⟨g, 0, none⟩, cap, rfl, h2, ⟨h3, fun h => by cases h⟩, fun _ => ⟨g, 0, rfl, hlt, fun j x hj => ?_⟩⟩
    have hl : j < l.length := (List.getElem?_eq_some_iff.1 hj).1
    rw [Nat.zero_add, h.cellAt j (by omega), List.getElem?_map, hj]
    rfl
theorem SRow.nil (w : World) : SRow w (.slice none 0 0) [] := ⟨none, 0, rfl, Nat.le_refl _, ⟨Nat.zero_le _, fun _ => rfl⟩, fun h => by simp at h⟩
theorem GC.flag {w0 w : World} {M : Nat} {rest : List UInt8} {bd b : Bool} {c : Cm} (h : GC w0 M rest bd c w) (e : bd = b) : ∃ y, y = b ∧ GC w0 M rest y c w := ⟨bd, e, h⟩
theorem put5 {w w1 : World} (h : Below w.heap.size w w1) (a b c d e : Value) : Below w.heap.size w (((((w1.setCell ⟨w.heap.size, 0, none⟩ a).setCell ⟨w.heap.size, 1, none⟩ b).setCell ⟨w.heap.size, 2, none⟩ c).setCell ⟨w.heap.size, 3, none⟩ d).setCell ⟨w.heap.size, 4, none⟩ e) :=
  ((((h.setCell (p := ⟨w.heap.size, 0, none⟩) (Nat.le_refl _) _).setCell (p := ⟨w.heap.size, 1, none⟩) (Nat.le_refl _) _).setCell (p := ⟨w.heap.size, 2, none⟩) (Nat.le_refl _) _).setCell (p := ⟨w.heap.size, 3, none⟩) (Nat.le_refl _) _).setCell (p := ⟨w.heap.size, 4, none⟩) (Nat.le_refl _) _
theorem grown5 (w1 : World) (N : Nat) (a b c d e : Value) : w1.grownBy (((((w1.setCell ⟨N, 0, none⟩ a).setCell ⟨N, 1, none⟩ b).setCell ⟨N, 2, none⟩ c).setCell ⟨N, 3, none⟩ d).setCell ⟨N, 4, none⟩ e) (some N) :=
  ((((grown_set _ _ _ _).trans (grown_set _ _ _ _)).trans (grown_set _ _ _ _)).trans (grown_set _ _ _ _)).trans (grown_set _ _ _ _)
set_option maxHeartbeats 6400000 in
set_option maxRecDepth 100000 in
theorem getCommit_any (L : List UInt8) (w : World) (hL : L.length ≤ 1000000) (hk : Ok w) :
    Calls Tryz.prog 17 #[.string (bs L)] w fun e w' => GetTo w L e w' := by
  have HOK := hideIt hk
  have HTO : Hid (∀ e w', GetTo w L e w' ↔ ∃ c : Cm, e = .returned (.tuple #[cmV c, .int .i64 (gCz L)]) ∧ SRow w' c.pv c.ps ∧ (gCz L = 0 → c = { gCm L with pv := c.pv }) ∧ (gCz L ≠ 0 → c = cmZ) ∧ Below w.heap.size w w') := hideIt (fun _ _ => Iff.rfl)
  obtain ⟨W0, hW0⟩ : ∃ W0, (w.alloc (.cells #[.string ⟨#[]⟩, .slice none 0 0, .string ⟨#[]⟩, .int .u64 0, .string ⟨#[]⟩] 42)).alloc (.cells #[.string (bs L), .bool false] 79) = W0 := ⟨_, rfl⟩
  have hb0 : Below w.heap.size w W0 := by rw [← hW0]; exact ((Below.refl _ _).alloc (Nat.le_refl _) _).alloc (by simp) _
  have hr0 : Rdr W0 (w.heap.size + 1) (bs L) false := ⟨by rw [← hW0]; exact Cb.alloc_at (by simp)⟩
  have hz0 : CBox W0 w.heap.size 42 cmZ := ⟨by rw [← hW0, Below.heap_alloc _ _ _ (by simp)]; exact Cb.alloc_at rfl⟩
  have hs0 : w.heap.size + 2 ≤ W0.heap.size := by rw [← hW0]; simp
  have HI := hideIt (takeID_any (w.heap.size + 1) treeW L false W0 hr0 hL (by decide) (hk.max.below hb0))
  have hL1 : (tkR L).length ≤ 1000000 := Nat.le_trans (tkR_len L) hL
  have HST := hideIt (fun (w1 : World) (bd : Bool) (hr : Rdr w1 (w.heap.size + 1) (bs (tkR L)) bd) hg => GC.start hb0 hz0 hs0 hr hg (unhB (tkT treeW L)))
  rw [← hW0] at HI HST
  clear hW0 hb0 hr0 hz0 hk hs0
  go_enter Tryz.func17, Tryz.ntmps17
  go_wp2_with (first
    | (go_at_call 44; refine HI.out.mono ?_; rintro e w1 ⟨rfl, hr1, hg1⟩; have G1 := hideIt (HST.out _ _ hr1 hg1); clear hr1 hg1))
  obtain ⟨i0, hi0, hz0, hz1, hz2⟩ := info_parts infoS
  have HG0 : Hid (∃ b1, b1 = !(tkO treeW L && idO (tkT treeW L)) ∧ GC w w1.heap.size (tkR L) b1 ⟨unhB (tkT treeW L), .slice none 0 0, [], ⟨#[]⟩, 0, ⟨#[]⟩⟩ (w1.alloc (.cells #[.string (unhB (tkT treeW L)), .slice none 0 0, .string ⟨#[]⟩, .int .u64 0, .string ⟨#[]⟩] 42))) := hideIt ⟨_, by simp, G1.out⟩
  obtain ⟨M, hM⟩ : ∃ M, w1.heap.size = M := ⟨_, rfl⟩
  obtain ⟨T, hT⟩ : ∃ T, unhB (tkT treeW L) = T := ⟨_, rfl⟩
  have HGT := hideIt hT
  rw [hM, hT] at HG0
  rw [hM, hT]
  obtain ⟨b1, hb1, g1⟩ := HG0.out
  have HB1 := hideIt hb1
  have HG1 := hideIt g1
  clear HG0 g1 hb1 G1 HST HI hM hT
  go_loopw [] (fun wr => ∃ (R : List UInt8) (f : Nat) (bd : Bool) (v : Value) (ps : List ByteArray) (good : Bool), R.length ≤ f ∧ R.length + ps.length ≤ 1000000 ∧ GC w M R bd ⟨T, v, ps, ⟨#[]⟩, 0, ⟨#[]⟩⟩ wr ∧ bd = (b1 || !good) ∧ gPs (tkR L).length (tkR L) = (ps ++ (gPs f R).1, (gPs f R).2.1, good && (gPs f R).2.2)) (fun wr => restOf wr (w.heap.size + 1))
  case atStart => exact ⟨tkR L, (tkR L).length, b1, _, [], true, Nat.le_refl _, by simpa using hL1, HG1.out, by simp, by simp⟩
  case round =>
    obtain ⟨R, f, bd, v, ps, good, hf, hRl, g, hbd, hgp⟩ := hrel
    have HG := hideIt g
    have HBD := hideIt hbd
    have HGP := hideIt hgp
    have HNX : Hid (Calls Tryz.prog 45 #[.pointer (some ⟨w.heap.size + 1, 0, none⟩), .string ⟨#[112, 97, 114, 101, 110, 116]⟩] wr fun e w' => e = .returned (.bool (hasW parentW R)) ∧ wr = w') := hideIt (next_any (w.heap.size + 1) parentW R bd wr g.rd (by decide))
    have HRO : Hid (restOf wr (w.heap.size + 1) = R.length) := hideIt (by unfold restOf; rw [g.rd.c0]; exact bs_size R)
    clear g hbd hgp
    cases hh : hasW parentW R with
    | true =>
      rw [hh] at HNX
      obtain ⟨f2, hf2, hgs⟩ := gPs_step f R hf hh
      have HGS := hideIt hgs
      have hless := tkR_less (hasW_ne hh)
      have HGD := hideIt HG.out.drew
      have HTK : Hid (Calls Tryz.prog 44 #[.pointer (some ⟨w.heap.size + 1, 0, none⟩), .string ⟨#[112, 97, 114, 101, 110, 116]⟩] wr.drew fun e w' => e = .returned (.string (unhB (tkT parentW R))) ∧ Rdr w' (w.heap.size + 1) (bs (tkR R)) (bd || !(tkO parentW R && idO (tkT parentW R))) ∧ wr.drew.grownBy w' (some (w.heap.size + 1))) := hideIt (takeID_any (w.heap.size + 1) parentW R bd wr.drew HGD.out.rd (by omega) (by decide) (HOK.out.below HGD.out.bel).max)
      obtain ⟨U, hU⟩ : ∃ U, unhB (tkT parentW R) = U := ⟨_, rfl⟩
      rw [hU] at HTK HGS
      have k1 := HGD.out.cb.c1
      simp only at k1
      clear hgs hU hh
      go_wp2_with (first | (go_at_call 45; refine HNX.out.mono ?_; rintro e w2 ⟨rfl, rfl⟩))
      go_region_law (first
        | (refine Cb.step_append_own (by rfl) _ _ 39 (by rfl) (M + 1) 9 i0 (.string ⟨#[]⟩) 1 16 Tryz.underlying39 hi0 hz0 hz1 hz2 rfl (by decide) _ _ _ (by rfl) (G2.out.row.alloc _) ⟨w4.heap.size, 0, none⟩ 1 1 [.string U] (by rfl) rfl (one_str (w := w4) U) (fun u hu => by simp at hu; subst hu; rfl) (by unfold maxLen; simp only; omega) (by simp only; omega) (by have := G2.out.cb.lt; simp; omega) ?_; intro v3 w3 hown3 hg3; obtain ⟨g3, cp3, rfl⟩ := row_form hown3; have A3 := hideIt (G2.out.append hg3 hown3); have x1 := A3.out.1.c1; have y1 := A3.out.1.f1; dsimp only at x1)
        | (go_simp; go_at_call 44; refine HTK.out.mono ?_; rintro e w4 ⟨rfl, hr4, hg4⟩; dsimp only; have G2 := hideIt (HGD.out.take hr4 hg4); have m1 := G2.out.cb.c1; have m2 := (G2.out.cb.below (new_below w4 (.cells #[.string U] 9))).c1; dsimp only at m1 m2; clear hr4 hg4))
      all_goals go_wp2
      all_goals go_roundw
      all_goals first
        | (refine ⟨tkR R, f2, _, _, ps ++ [U], good && (tkO parentW R && idO (tkT parentW R)), hf2, ?_, A3.out.2, ?_, ?_⟩
           · rw [List.length_append]
             simp only [List.length_cons, List.length_nil]
             omega
           · rw [HBD.out]
             cases b1 <;> cases good <;> simp
           · rw [HGP.out, HGS.out]
             simp [Bool.and_assoc])
        | (show restOf _ _ < restOf _ _
           have e1 : restOf (w3.setCell ⟨M, 1, none⟩ (.slice (some ⟨g3, 0, none⟩) (ps.length + 1) cp3)) (w.heap.size + 1) = (tkR R).length := by unfold restOf; rw [A3.out.2.rd.c0]; exact bs_size _
           rw [e1, HRO.out]
           exact hless)
    | false =>
      rw [hh] at HNX
      have HGE : Hid (gPs (tkR L).length (tkR L) = (ps, R, good)) := hideIt (by rw [HGP.out, gPs_end f R hh]; simp)
      have HCO : Hid ((bd || !tkO authorW R || !(tkO timeW (tkR R) && undO (tkT timeW (tkR R))) || !txO (tkR (tkR R))) = !gCo L) := hideIt (by
        unfold gCo
        rw [HGE.out, HBD.out, HB1.out]
        simp only
        cases tkO treeW L <;> cases idO (tkT treeW L) <;> cases good <;> cases tkO authorW R <;> cases (tkO timeW (tkR R) && undO (tkT timeW (tkR R))) <;> cases txO (tkR (tkR R)) <;> rfl)
      have HCM : Hid (gCm L = ⟨T, .slice none 0 0, ps, bs (tkT authorW R), undN (tkT timeW (tkR R)), bs (txT (tkR (tkR R)))⟩) := hideIt (by unfold gCm; rw [HGE.out, HGT.out])
      have HCZ : Hid (gCz L = if gCo L = true then comE (gCm L) else 6) := rfl
      have HCK := hideIt (fun (v : Value) (w' : World) (hr : SRow w' v ps) (hm : MaxAt w') => checkCommit_any ⟨T, v, ps, bs (tkT authorW R), undN (tkT timeW (tkR R)), bs (txT (tkR (tkR R)))⟩ w' hr (by simp only; rw [bs_size]; exact Nat.le_trans (tkT_len _ _) (by omega)) (by simp only; rw [bs_size]; exact Nat.le_trans (txT_len _) (Nat.le_trans (tkR_len _) (Nat.le_trans (tkR_len _) (by omega)))) hm)
      have HCE : Hid (∀ v, comE ⟨T, v, ps, bs (tkT authorW R), undN (tkT timeW (tkR R)), bs (txT (tkR (tkR R)))⟩ = comE (gCm L)) := hideIt (fun v => by rw [HCM.out]; rfl)
      obtain ⟨z, hz⟩ : ∃ z, comE (gCm L) = z := ⟨_, rfl⟩
      rw [hz] at HCE HCZ
      unfold cmV at HCK
      simp only at HCK
      clear hz
      clear HGP hh
      obtain ⟨av, cv, hv, -, -, -⟩ := SRow.of_row HG.out.row
      simp only at hv
      subst hv
      have hRl1 : R.length ≤ 1000000 := by omega
      have hR2 : (tkR R).length ≤ 1000000 := Nat.le_trans (tkR_len _) hRl1
      have hR3 : (tkR (tkR R)).length ≤ 1000000 := Nat.le_trans (tkR_len _) hR2
      have HOKB : Hid (∀ w', Below w.heap.size w w' → Ok w') := hideIt (fun w' h => HOK.out.below h)
      have HA := hideIt (take_any (w.heap.size + 1) authorW R bd wr HG.out.rd hRl1 (by decide) (HOKB.out _ HG.out.bel).max)
      have HC1 := hideIt (fun w => clone_c (tkT authorW R) w (Nat.le_trans (tkT_len _ _) hRl1))
      have HTM := hideIt (fun (w1 : World) (bd : Bool) (c : Cm) (g : GC w M (tkR R) bd c w1) => takeNumber_any (w.heap.size + 1) timeW (tkR R) bd w1 g.rd hR2 (by decide) (HOKB.out _ g.bel) (fun w' hg => HOKB.out _ (g.bel.grown hg g.bel.size (fun k hk => by simp at hk; omega))))
      have HX := hideIt (fun (w1 : World) (bd : Bool) (c : Cm) (g : GC w M (tkR (tkR R)) bd c w1) => takeText_any (w.heap.size + 1) (tkR (tkR R)) bd w1 g.rd)
      have HC2 := hideIt (fun w => clone_c (txT (tkR (tkR R))) w (Nat.le_trans (txT_len _) hR3))
      have HG4 := hideIt (fun (w4 : World) (hr : Rdr w4 (w.heap.size + 1) (bs (tkR R)) (bd || !tkO authorW R)) hg => HG.out.take (rest' := tkR R) hr hg)
      go_wp2_with (first
        | (go_at_call 45; refine HNX.out.mono ?_; rintro e w2 ⟨rfl, rfl⟩)
        | (go_at_call 46; refine HA.out.mono ?_; rintro e w4 ⟨rfl, hr4, hg4⟩; have G4 := hideIt (HG4.out _ hr4 hg4); clear hr4 hg4)
        | (go_at_call 25; refine (HC2.out _).mono ?_; rintro e w8 ⟨rfl, hb8⟩; obtain ⟨y, hy, g8⟩ := (G7.out.below hb8).flag HCO.out; have HY := hideIt hy; have G8 := hideIt g8; clear hy g8; have a0 := G8.out.cb.c0; have a1 := G8.out.cb.c1; have a2 := G8.out.cb.c2; have a3 := G8.out.cb.c3; have a4 := G8.out.cb.c4; have b4 := G8.out.cb.f4; have cr := G8.out.rd.c1; have e0 := G8.out.res.c0; have e1 := G8.out.res.c1; have e2 := G8.out.res.c2; have e3 := G8.out.res.c3; have e4 := G8.out.res.c4; have g0 := G8.out.res.f0; have g1 := G8.out.res.f1; have g2 := G8.out.res.f2; have g3 := G8.out.res.f3; have g4 := G8.out.res.f4; have hn1 : ¬ M = w.heap.size := (by have := G8.out.far; omega); have hn2 : ¬ w.heap.size = M := (by have := G8.out.far; omega); dsimp only [cmZ] at a0 a1 a2 a3 a4 e0 e1 e2 e3 e4)
        | (go_at_call 25; refine (HC1.out _).mono ?_; rintro e w5 ⟨rfl, hb5⟩; have G5 := hideIt (G4.out.below hb5); have c52 := G5.out.cb.c2; have f52 := G5.out.cb.f2; dsimp only at c52)
        | (go_at_call 47; refine (HTM.out _ _ _ (G5.out.set2 _)).mono ?_; rintro e w6 ⟨rfl, hr6, hg6⟩; have G6 := hideIt ((G5.out.set2 _).take hr6 hg6); have c63 := G6.out.cb.c3; have f63 := G6.out.cb.f3; dsimp only at c63; clear hr6 hg6)
        | (go_at_call 48; refine (HX.out _ _ _ (G6.out.set3 _)).mono ?_; rintro e w7 ⟨rfl, hr7, hg7⟩; have G7 := hideIt ((G6.out.set3 _).take (rest' := []) hr7 hg7); clear hr7 hg7)
        | (go_at_call 16; refine (HCK.out _ _ (SRow.of_row (G8.out.set4 _).row) (HOKB.out _ (G8.out.set4 _).bel).max).mono ?_; rintro e w9 ⟨he9, hb9⟩; rw [HCE.out] at he9; subst he9; have G9 := hideIt ((G8.out.set4 _).below hb9); have d0 := G9.out.cb.c0; have d1 := G9.out.cb.c1; have d2 := G9.out.cb.c2; have d3 := G9.out.cb.c3; have d4 := G9.out.cb.c4; have e0 := G9.out.res.c0; have e1 := G9.out.res.c1; have e2 := G9.out.res.c2; have e3 := G9.out.res.c3; have e4 := G9.out.res.c4; have g0 := G9.out.res.f0; have g1 := G9.out.res.f1; have g2 := G9.out.res.f2; have g3 := G9.out.res.f3; have g4 := G9.out.res.f4; dsimp only [cmZ] at d0 d1 d2 d3 d4 e0 e1 e2 e3 e4))
      · have hg : gCz L = 6 := by
          rw [HCZ.out, if_neg]
          have := HY.out
          simp_all
        refine bodyPost_ret (v := .tuple #[cmV cmZ, .int .i64 6]) ?_ rfl ?_
        · rw [results_c2 rfl]
          go_simp
          rfl
        · refine (HTO.out _ _).2 ⟨cmZ, by rw [hg], SRow.nil _, fun h => by rw [hg] at h; omega, fun _ => rfl, put5 (G8.out.set4 _).bel _ _ _ _ _⟩
      · have hz0 : ¬ z = 0 := by simp_all
        have hg : gCz L = z := by
          rw [HCZ.out, if_pos]
          have := HY.out
          simp_all
        refine bodyPost_ret (v := .tuple #[cmV cmZ, .int .i64 z]) ?_ rfl ?_
        · rw [results_c2 rfl]
          go_simp
          rfl
        · refine (HTO.out _ _).2 ⟨cmZ, by rw [hg], SRow.nil _, fun h => absurd (hg.symm.trans h) hz0, fun _ => rfl, put5 G9.out.bel _ _ _ _ _⟩
      · have hz0 : z = 0 := by simp_all
        have hg : gCz L = 0 := by
          rw [HCZ.out, if_pos, hz0]
          have := HY.out
          simp_all
        refine bodyPost_ret (v := .tuple #[cmV ⟨T, .slice av ps.length cv, ps, bs (tkT authorW R), undN (tkT timeW (tkR R)), bs (txT (tkR (tkR R)))⟩, .int .i64 0]) ?_ rfl ?_
        · rw [results_c2 rfl]
          go_simp
          rfl
        · exact (HTO.out _ _).2 ⟨⟨T, .slice av ps.length cv, ps, bs (tkT authorW R), undN (tkT timeW (tkR R)), bs (txT (tkR (tkR R)))⟩, by rw [hg], SRow.of_row (row_kept G9.out.row (by have := G9.out.far; omega) (grown5 _ _ _ _ _ _ _)), fun _ => by rw [HCM.out], fun h => absurd hg h, put5 G9.out.bel _ _ _ _ _⟩
end Ob
end Go.Proofs.YtmjffngpaoaflaaGreatDoor
