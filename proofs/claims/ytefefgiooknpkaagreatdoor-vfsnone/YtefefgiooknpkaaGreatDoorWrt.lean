/- A file comes, by a Write, walked. -/
import Derived.Test.YtefefgiooknpkaaGreatDoorFsd
namespace Go.Proofs.YtefefgiooknpkaaGreatDoor
open Go.RowKit Go.Shelf Go.Maps
variable {B0 : Nat}
/-- The unsure ones, when a file that came has got its bytes. -/
def unsureD (s : ByteArray) (D : DataW Value) (num xb : Nat) : DataW Value := if s.data.toList = [] then D.del (.int .i64 num) else D.put (.int .i64 num) (.held (.pointer (some ⟨xb, 0, none⟩)))
/-- The whole behind its first step: three maps, the row of what was done. -/
structure St (B0 : Nat) (w : World) (fb b1 b2 b3 : Nat) (done : Value) (came used room steps : Nat) (n1 n2 n3 k : Nat) (D1 D2 D3 : DataW Value) (xs : List Value) : Prop where
  fs : FsAt w fb (.map (some b1)) (.map (some b2)) done (.map (some b3)) came used room steps false
  m1 : NMap w b1 n1 D1
  m2 : NMap w b2 n2 D2
  m3 : UMap w b3 n3 D3
  row : w.ownsRow B0 86 4 done k xs
  d12 : b1 ≠ b2
  d13 : b1 ≠ b3
  d23 : b2 ≠ b3
  ba : B0 ≤ w.heap.size
theorem map_fact {w : World} {k : TypeId} {b n : Nat} {D : DataW Value} (h : w.ownsMap Tryz.prog k anyE b n D) : ∃ es c, w.heap[b]? = some (.map es c) := by
  obtain ⟨es, c, h1, _⟩ := h
  exact ⟨es, c, h1⟩
theorem row_ne_map {w : World} {base n m : Nat} {v : Value} {xs : List Value} {b : Nat} {k : TypeId} {D : DataW Value} (ho : w.ownsRow base 86 4 v n xs) (h : w.ownsMap Tryz.prog k anyE b m D) : b ∉ v.ownBlock.toList := by
  obtain ⟨es, c, h1⟩ := map_fact h
  cases hob : v.ownBlock with
  | none => simp
  | some g => simp; exact fun e => row_ne ho h1 (fun cur => by simp) g hob e.symm
theorem row_ne_cells {w : World} {base n : Nat} {v : Value} {xs : List Value} {b : Nat} {arr : Array Value} {t : TypeId} (ho : w.ownsRow base 86 4 v n xs) (h : w.heap[b]? = some (.cells arr t (0, 0))) (ht : t ≠ 86) : b ∉ v.ownBlock.toList := by
  cases hob : v.ownBlock with
  | none => simp
  | some g => simp; exact fun e => row_ne ho h (fun cur => by simp [ht]) g hob e.symm
theorem St.kept {w w' : World} {fb b1 b2 b3 : Nat} {done : Value} {came used room steps n1 n2 n3 k : Nat} {D1 D2 D3 : DataW Value} {xs : List Value} (h : St B0 w fb b1 b2 b3 done came used room steps n1 n2 n3 k D1 D2 D3 xs) {bs : List Nat} (hk : Kept bs w w')
    (h0 : fb ∉ bs) (h1 : b1 ∉ bs) (h2 : b2 ∉ bs) (h3 : b3 ∉ bs) (h4 : ∀ g, done.ownBlock = some g → g ∉ bs) : St B0 w' fb b1 b2 b3 done came used room steps n1 n2 n3 k D1 D2 D3 xs :=
  ⟨hk.fs h.fs h0, hk.map h.m1 h1, hk.map h.m2 h2, hk.map h.m3 h3, hk.row h.row h4, h.d12, h.d13, h.d23, Nat.le_trans h.ba hk.size⟩
theorem St.keep0 {w w' : World} {fb b1 b2 b3 : Nat} {done : Value} {came used room steps n1 n2 n3 k : Nat} {D1 D2 D3 : DataW Value} {xs : List Value} (h : St B0 w fb b1 b2 b3 done came used room steps n1 n2 n3 k D1 D2 D3 xs) (hk : Kept [] w w') : St B0 w' fb b1 b2 b3 done came used room steps n1 n2 n3 k D1 D2 D3 xs :=
  h.kept hk (by simp) (by simp) (by simp) (by simp) (by simp)
theorem clone_any (s : ByteArray) (w : World) (hs : s.size ≤ 140737488355328) : Calls Tryz.prog 40 #[.string s] w fun e w' => e = .returned (.string s) ∧ Below w.heap.size w w' := by
  have HC := hideIt (Tryz.stringslite_Clone s w (by omega))
  go_enter Tryz.func40, Tryz.ntmps40
  go_wp2_with (first | (go_at_call 77; refine HC.out.mono ?_; rintro e w1 ⟨rfl, hb1⟩))
  go_ret
  exact ⟨rfl, hb1⟩
theorem Kept.drewN {bs : List Nat} {w w' : World} (h : Kept bs w w') : ∀ j, Kept bs w (w'.drewN j)
  | 0 => h
  | j + 1 => (Kept.drewN h j).drew
section
variable {w : World} {fb b1 b2 b3 : Nat} {done : Value} {came used room steps n1 n2 n3 k : Nat} {D1 D2 D3 : DataW Value} {xs : List Value}
theorem St.setFs (h : St B0 w fb b1 b2 b3 done came used room steps n1 n2 n3 k D1 D2 D3 xs) (i : Nat) (v : Value) (came' used' : Nat) (hf : FsAt (w.setCell ⟨fb, i, none⟩ v) fb (.map (some b1)) (.map (some b2)) done (.map (some b3)) came' used' room steps false) :
    St B0 (w.setCell ⟨fb, i, none⟩ v) fb b1 b2 b3 done came' used' room steps n1 n2 n3 k D1 D2 D3 xs := by
  have e1 := file_ne_map h.fs h.m1
  have e2 := file_ne_map h.fs h.m2
  have e3 := file_ne_map h.fs h.m3
  have e4 := row_ne_cells h.row h.fs (by decide)
  refine ⟨hf, (Kept.set fb i v).map h.m1 (by simpa using fun e => e1 e.symm), (Kept.set fb i v).map h.m2 (by simpa using fun e => e2 e.symm), (Kept.set fb i v).map h.m3 (by simpa using fun e => e3 e.symm), (Kept.set fb i v).row h.row (fun g hg => ?_), h.d12, h.d13, h.d23, by simpa [World.setCell] using h.ba⟩
  simp
  intro e
  subst e
  rw [hg] at e4
  simp at e4
theorem St.setCame (h : St B0 w fb b1 b2 b3 done came used room steps n1 n2 n3 k D1 D2 D3 xs) : St B0 (w.setCell ⟨fb, 4, none⟩ (.int .i64 ((came : Int) + 1))) fb b1 b2 b3 done (came + 1) used room steps n1 n2 n3 k D1 D2 D3 xs := by
  refine h.setFs 4 _ _ _ ?_
  unfold FsAt
  rw [heap_setCell_same w fb 4 _ 79 _ h.fs]
  rfl
theorem St.setUsed (h : St B0 w fb b1 b2 b3 done came used room steps n1 n2 n3 k D1 D2 D3 xs) (g : Nat) : St B0 (w.setCell ⟨fb, 5, none⟩ (.int .i64 ((used : Int) + (g : Int)))) fb b1 b2 b3 done came (used + g) room steps n1 n2 n3 k D1 D2 D3 xs := by
  refine h.setFs 5 _ _ _ ?_
  unfold FsAt
  rw [heap_setCell_same w fb 5 _ 79 _ h.fs]
  simp [fsv]
/-- Behind a step: the file's block is laid, and counted. -/
def boxed (w : World) (fb came : Nat) : World := (w.setCell ⟨fb, 4, none⟩ (.int .i64 ((came : Int) + 1))).alloc (.cells #[.int .i64 (came : Int), .string ⟨#[]⟩, .string ⟨#[]⟩, .int .i64 1] 82)
theorem enact_after (h : St B0 w fb b1 b2 b3 done came used room steps n1 n2 n3 k D1 D2 D3 xs) (hn : n1 < 1000) (hk : k < 1000) (p : ByteArray) (hp : p.size ≤ 140737488355328) (hd : dirOf p = ⟨#[]⟩) (hh : Maps.has D1 (key p) = false) (X : World) (hX : Below (boxed w fb came).heap.size (boxed w fb came) X) :
    Calls Tryz.prog 39 #[.pointer (some ⟨fb, 0, none⟩), .agg #[.int .i64 0, .string p, .string ⟨#[]⟩, .pointer (some ⟨w.heap.size, 0, none⟩)]] X fun e w' => e = .returned (.tuple #[]) ∧ ∃ done', St B0 w' fb b1 b2 b3 done' (came + 1) used room steps (n1 + 1) n2 n3 (k + 1) (D1.put (key p) (.held (.pointer (some ⟨w.heap.size, 0, none⟩)))) D2 D3 (xs ++ [.int .i64 0, .string p, .string ⟨#[]⟩, .pointer (some ⟨w.heap.size, 0, none⟩)]) ∧
      FileAt w' w.heap.size came ⟨#[]⟩ ⟨#[]⟩ 1 ∧ Kept (fb :: b1 :: done.ownBlock.toList) w w' := by
  have hkX : Kept [] (boxed w fb came) X := Kept.of_below hX
  have hkA : Kept [] (w.setCell ⟨fb, 4, none⟩ (.int .i64 ((came : Int) + 1))) (boxed w fb came) := Kept.alloc _ _
  have hS : St B0 X fb b1 b2 b3 done (came + 1) used room steps n1 n2 n3 k D1 D2 D3 xs := (h.setCame.keep0 hkA).keep0 hkX
  have hsz : (w.setCell ⟨fb, 4, none⟩ (.int .i64 ((came : Int) + 1))).heap.size = w.heap.size := by simp [World.setCell]
  have hF : FileAt X w.heap.size came ⟨#[]⟩ ⟨#[]⟩ 1 := hkX.fs (alloc_at hsz) (by simp)
  refine (enact_comes hS.fs hS.m1 hn hS.row hS.ba hk p hp hd hh _).mono fun e w' ⟨he, done', h1, h2, h3, h4⟩ => ⟨he, done', ?_, ?_, ?_⟩
  · have e2 := file_ne_map hS.fs hS.m2
    have e3 := file_ne_map hS.fs hS.m3
    have r2 := row_ne_map hS.row hS.m2
    have r3 := row_ne_map hS.row hS.m3
    refine ⟨h1, h2, h4.map hS.m2 ?_, h4.map hS.m3 ?_, h3, hS.d12, hS.d13, hS.d23, Nat.le_trans hS.ba h4.size⟩
    · simp only [List.mem_cons, not_or]
      exact ⟨fun e => hS.d12 e.symm, fun e => e2 e.symm, r2⟩
    · simp only [List.mem_cons, not_or]
      exact ⟨fun e => hS.d13 e.symm, fun e => e3 e.symm, r3⟩
  · refine h4.fs hF ?_
    have e1 := file_ne_map hF hS.m1
    have e4 := row_ne_cells hS.row hF (by decide)
    have e5 := block_lt h.fs
    simp only [List.mem_cons, not_or]
    exact ⟨e1, by omega, e4⟩
  · exact ((((Kept.set fb 4 _).trans hkA).trans hkX).trans h4).sub (by intro a ha; simp at ha ⊢; rcases ha with ha | ha | ha | ha <;> simp [ha])
theorem lay_after (h : St B0 w fb b1 b2 b3 done came used room steps n1 n2 n3 k D1 D2 D3 xs) {xb num : Nat} {links : Int} (hF : FileAt w xb num ⟨#[]⟩ ⟨#[]⟩ links) (hfx : fb ≠ xb) (hnum : num < 1000) (hn3 : n3 < 1000) (s : ByteArray) (X : World) (hX : Kept [] w X) :
    Calls Tryz.prog 41 #[.pointer (some ⟨fb, 0, none⟩), .pointer (some ⟨xb, 0, none⟩), .string s, .string ⟨#[]⟩] X fun e w' => e = .returned (.tuple #[]) ∧
      St B0 w' fb b1 b2 b3 done came used room steps n1 n2 (n3 + 1) k D1 D2 (unsureD s D3 num xb) xs ∧ FileAt w' xb num s ⟨#[]⟩ links ∧ Kept [xb, b3] w w' := by
  have hS := h.keep0 hX
  have hF' := hX.fs hF (by simp)
  have e1 := file_ne_map hF' hS.m1
  have e2 := file_ne_map hF' hS.m2
  have e0 := file_ne_map hS.fs hS.m3
  have e4 := row_ne_cells hS.row hF' (by decide)
  have e5 := row_ne_map hS.row hS.m3
  have fin : ∀ w' D n', FileAt w' xb num s ⟨#[]⟩ links → UMap w' b3 n' D → Kept [xb, b3] X w' → St B0 w' fb b1 b2 b3 done came used room steps n1 n2 n' k D1 D2 D xs ∧ FileAt w' xb num s ⟨#[]⟩ links ∧ Kept [xb, b3] w w' := by
    intro w' D n' h1 h2 h3
    refine ⟨⟨h3.fs hS.fs ?_, h3.map hS.m1 ?_, h3.map hS.m2 ?_, h2, h3.row hS.row ?_, hS.d12, hS.d13, hS.d23, Nat.le_trans hS.ba h3.size⟩, h1, (hX.trans h3).sub (by simp)⟩
    · simp; exact ⟨hfx, e0⟩
    · simp; exact ⟨fun e => e1 e.symm, hS.d13⟩
    · simp; exact ⟨fun e => e2 e.symm, hS.d23⟩
    · intro g hg
      rw [hg] at e4 e5
      simp at e4 e5 ⊢
      exact ⟨fun e => e4 e.symm, fun e => e5 e.symm⟩
  by_cases hs : s.data.toList = []
  · obtain rfl : s = ⟨#[]⟩ := by
      rw [← bs_data s, hs]; rfl
    rw [unsureD, if_pos hs]
    exact (lay_same hS.fs hF' hS.m3 hfx hnum ⟨#[]⟩).mono fun e w' ⟨h0, h1, h2, h3⟩ => ⟨h0, fin w' _ _ h1 (h2.mono (by omega)) h3⟩
  · rw [unsureD, if_neg hs]
    exact (lay_other hS.fs hF' hS.m3 hfx hnum hn3 s ⟨#[]⟩ (by simpa using hs)).mono fun e w' ⟨h0, h1, h2, h3⟩ => ⟨h0, fin w' _ _ h1 h2 h3⟩
end
theorem Kept.fresh {bs cs : List Nat} {w w' : World} (h : Kept cs w w') (hs : ∀ x ∈ cs, x ∈ bs ∨ w.heap.size ≤ x) : Kept bs w w' := ⟨h.os, h.tape, h.output, h.size, fun k hk hn => h.block k hk (fun e => by
  rcases hs k e with h1 | h1
  · exact hn h1
  · omega)⟩
theorem kept_drew {W X : World} (h : Below W.drew.heap.size W.drew X) : Kept [] W X := ⟨h.os, h.tape, h.output, h.size, fun k hk _ => h.block k hk⟩
section
variable {w : World} {fb : Nat} {nv sv done uv : Value} {came used room steps : Nat}
set_option maxHeartbeats 1600000 in
set_option maxRecDepth 100000 in
theorem write_comes (h : FsAt w fb nv sv done uv came used room steps false) (hm : MaxAt w) (p s : ByteArray) (hp : p.size ≤ 140737488355328) (hs : s.size ≤ 1000) (hpath : pathL p.data.toList = true) (hd : dirOf p = ⟨#[]⟩)
    (hfit : used + s.size ≤ room) (hroom : room ≤ 200000) (hcame : came < 900) (Q : Nat → Nat → Nat → Prop) (n1 n2 n3 k : Nat) (D1 D2 D3 : DataW Value) (xs : List Value) (hn1 : n1 < 900) (hn3 : n3 < 900) (hk : k < 900) (hh : Maps.has D1 (key p) = false)
    (hroot : ∀ X, Kept [] w X → Calls Tryz.prog 36 #[nv, .string ⟨#[]⟩] X fun e w' => e = .returned (.bool true) ∧ w' = X)
    (hno : ∀ X, Kept [] w X → Calls Tryz.prog 36 #[nv, .string p] X fun e w' => e = .returned (.bool false) ∧ w' = X)
    (hlook : ∀ X, Kept [] w X → (Instr.lookup 75 nv (.string p) false).run Tryz.prog X = .ok (.pointer none) X)
    (hstep : ∀ X, Kept [] w X → Calls Tryz.prog 38 #[.pointer (some ⟨fb, 0, none⟩)] X fun e w' => e = .returned (.int .i64 0) ∧ ∃ b1 b2 b3, Q b1 b2 b3 ∧ St B0 w' fb b1 b2 b3 done came used room (steps + 1) n1 n2 n3 k D1 D2 D3 xs ∧ Kept [fb] X w') :
    Calls Tryz.prog 12 #[.pointer (some ⟨fb, 0, none⟩), .string p, .string s] w fun e w' => e = .returned (.int .i64 0) ∧ ∃ b1 b2 b3 done' xb, Q b1 b2 b3 ∧ w.heap.size ≤ xb ∧
      St B0 w' fb b1 b2 b3 done' (came + 1) (used + s.size) room (steps + 1) (n1 + 1) n2 (n3 + 1) (k + 1) (D1.put (key p) (.held (.pointer (some ⟨xb, 0, none⟩)))) D2 (unsureD s D3 came xb) (xs ++ [.int .i64 0, .string p, .string ⟨#[]⟩, .pointer (some ⟨xb, 0, none⟩)]) ∧
      FileAt w' xb came s ⟨#[]⟩ 1 ∧ Kept (fb :: b1 :: b3 :: done.ownBlock.toList) w w' := by
  obtain ⟨W, hW⟩ : ∃ W, w.alloc (.cells #[.string p] 9) = W := ⟨_, rfl⟩
  have hkW : Kept [] w W := by rw [← hW]; exact Kept.alloc _ _
  have hrow : W.heap[w.heap.size]? = some (.cells #[.string p] 9 (0, 0)) := by rw [← hW]; exact alloc_at rfl
  have hf := hkW.fs h (by simp)
  have HH := hideIt (hindered_one hf (hkW.max hm (by simp)) p hp w.heap.size 9 hrow)
  have he : errPath p = 0 := by rw [errPath, if_pos hpath]
  rw [he] at HH
  have HF : Hid (∀ X, Below W.heap.size W X → Kept [] w X ∧ FsAt X fb nv sv done uv came used room steps false) := hideIt (fun X hX => ⟨(hkW.trans (Kept.of_below hX)).sub (by simp), (Kept.of_below hX).fs hf (by simp)⟩)
  have HD := hideIt (fun X => folderOf_any p X hp)
  rw [hd] at HD
  have HD2 := hideIt hd
  have hwc : IntKind.i64.wrap ((came : Int) + 1) = (came : Int) + 1 := by rw [IntKind.wrap_i64]; omega
  have hwu : IntKind.i64.wrap ((used : Int) + (s.size : Int)) = (used : Int) + (s.size : Int) := by rw [IntKind.wrap_i64]; omega
  have HR := hideIt hroot
  have HN := hideIt hno
  have HL := hideIt hlook
  have HT := hideIt hstep
  clear h hm hpath hd hroot hno hlook hstep hkW hrow hf he
  go_enter Tryz.func12, Tryz.ntmps12
  go_wp2_with (first | (go_at_call 35; refine HH.out.mono ?_; rintro e w1 ⟨rfl, hb1⟩))
  obtain ⟨hk1, hf1⟩ := HF.out w1 hb1
  have d0 := fs0 hf1
  have HK1 := hideIt hk1
  have HF1 := hideIt hf1
  have hl := HL.out w1.drew hk1.drew
  clear hk1 hf1
  go_region_held3 (fun X => X.cell? ⟨fb, 0, none⟩ = some nv) (first | exact d0 | assumption) (first | (go_at_call 37; refine (HD.out _).mono ?_; rintro e wx ⟨rfl, rfl⟩) | (go_at_call 36; refine (HR.out _ (by exact HK1.out.drew)).mono ?_; rintro e wx ⟨rfl, rfl⟩))
  go_wp2_with (first | (go_at_call 36; refine (HN.out _ (by exact HK1.out.drew)).mono ?_; rintro e wx ⟨rfl, rfl⟩))
  have d5 := fs5 HF1.out
  have d6 := fs6 HF1.out
  obtain ⟨d, hdn⟩ : ∃ d : Nat, (room : Int) - (used : Int) = (d : Int) := ⟨room - used, by omega⟩
  have r1 : IntKind.i64.wrap (d : Int) = (d : Int) := by rw [IntKind.wrap_i64]; omega
  have r2 : ¬ d < s.size := by omega
  have hgc : (decide ((0 : Int) < (s.size : Int)) = false ∧ decide (0 < s.size) = false) ∨ (decide ((0 : Int) < (s.size : Int)) = true ∧ (0 : Int) < (s.size : Int) ∧ decide (0 < s.size) = true ∧ 0 < s.size) := by
    by_cases hz : 0 < s.size
    · exact .inr ⟨decide_eq_true (by omega), by omega, decide_eq_true hz, hz⟩
    · exact .inl ⟨decide_eq_false (by omega), decide_eq_false hz⟩
  have HT1 : Hid (∀ j, Calls Tryz.prog 38 #[.pointer (some ⟨fb, 0, none⟩)] (w1.drewN j) fun e w' => e = .returned (.int .i64 0) ∧ ∃ b1 b2 b3, Q b1 b2 b3 ∧ St B0 w' fb b1 b2 b3 done came used room (steps + 1) n1 n2 n3 k D1 D2 D3 xs ∧ Kept [fb] w w') := hideIt (fun j => by
    have hj : Kept [] w (w1.drewN j) := HK1.out.drewN j
    exact (HT.out _ hj).mono fun _ _ ⟨a1, b1, b2, b3, a2, a3, a4⟩ => ⟨a1, b1, b2, b3, a2, a3, (hj.trans a4).sub (by simp)⟩)
  rcases hgc with ⟨g1, g2⟩ | ⟨g1, g2, g3, g4⟩
  all_goals go_quiet (fail)
  all_goals go_wp2_with (first | (go_at_call 38; refine (HT1.out _).mono ?_; rintro e w2 ⟨rfl, b1, b2, b3, hQ, hS, hk2⟩; have c4 := fs4 hS.fs; have f4 := thawAt hS.fs 4; have l2 := block_lt hS.fs))
  all_goals (have HE := hideIt (enact_after hS (by omega) (by omega) p hp HD2.out hh); have HQ := hideIt hQ; have HS := hideIt hS; have HK2 := hideIt hk2; clear hQ hS hk2)
  all_goals go_wp2_with (first | (go_at_call 40; refine (clone_any p _ hp).mono ?_; rintro e w3 ⟨rfl, hb3⟩) | (go_at_call 39; refine (HE.out _ hb3).mono ?_; rintro e w4 ⟨rfl, done', hS4, hF4, hk4⟩; have c5 := fs5 hS4.fs; have f5 := thawAt hS4.fs 5; have x2 := fl2 hF4; have l4 := block_lt hS4.fs; have l5 := block_lt hF4))
  all_goals (have hlt2 := block_lt HS.out.fs; have hF6 : FileAt (w4.setCell ⟨fb, 5, none⟩ (.int .i64 ((used : Int) + (s.size : Int)))) w2.heap.size came ⟨#[]⟩ ⟨#[]⟩ 1 := (Kept.set fb 5 _).fs hF4 (by simp; omega); have x6 := fl2 hF6; have HLA := hideIt (lay_after (hS4.setUsed s.size) hF6 (by omega) (by omega) (by omega) s); have HX6 := hideIt (fun (X : World) (hX : Kept [] (w4.setCell ⟨fb, 5, none⟩ (.int .i64 ((used : Int) + (s.size : Int)))) X) => fl2 (hX.fs hF6 (by simp))); have HK4 := hideIt hk4; clear hS4 hF4 hk4 hF6)
  all_goals go_region_held3 (fun X => X.cell? ⟨w2.heap.size, 2, none⟩ = some (.string ⟨#[]⟩)) (first | exact x6 | exact HX6.out _ (kept_drew (by assumption)) | exact fl2 (by assumption) | assumption) (first | (go_at_call 40; refine (clone_any s _ (by omega)).mono ?_; rintro e w5 ⟨rfl, hb5⟩) | (go_at_call 41; refine (HLA.out _ (kept_drew hb5)).mono ?_; rintro e w6 ⟨rfl, hS7, hF7, hk7⟩))
  all_goals go_wp2
  all_goals go_ret
  all_goals refine ⟨rfl, b1, b2, b3, done', w2.heap.size, HQ.out, HK2.out.size, hS7, hF7, ?_⟩
  all_goals exact (((HK2.out.trans HK4.out).trans (Kept.set fb 5 _)).trans hk7).fresh (by have := HK2.out.size; intro a ha; simp only [List.mem_append, List.mem_cons, List.not_mem_nil, or_false] at ha ⊢; rcases ha with ((ha | (ha | ha | ha)) | ha) | (ha | ha) <;> first | exact .inr (by omega) | exact .inl (by simp [ha]))
end
end Go.Proofs.YtefefgiooknpkaaGreatDoor
