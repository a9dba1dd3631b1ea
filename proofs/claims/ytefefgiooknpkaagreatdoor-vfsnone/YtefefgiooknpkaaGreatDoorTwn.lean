/- A file's twin, and a map's with the twins of its files: walked. -/
import Derived.Test.YtefefgiooknpkaaGreatDoorWro
namespace Go.Proofs.YtefefgiooknpkaaGreatDoor
open Go.RowKit Go.Shelf Go.Maps Go.ChangeMaps Go.MapKept
theorem look_i {w : World} {b n : Nat} {D : DataW Value} (h : UMap w b n D) (m : Nat) (hm : m < 1000) :
    (Instr.lookup 77 (.map (some b)) (.int .i64 (m : Int)) false).run Tryz.prog w = .ok (valAt D (.int .i64 (m : Int))) w := by
  obtain ⟨v, ps, hrun, hv⟩ := h.lookup (t := 77) (zd := .held (.pointer none)) (zp := []) kI Tryz.underlying77 (zeroP w) rfl (keyI m hm)
  simp only [anyE, Option.some.injEq, Prod.mk.injEq] at hv
  rw [hrun, valAt, ← hv.1]
  rfl
/-- A map with one number. -/
def oneI (m : Nat) (v : Value) : DataW Value := DataW.put (.map []) (.int .i64 (m : Int)) (.held v)
theorem oneI_val (m : Nat) (v : Value) : valAt (oneI m v) (.int .i64 (m : Int)) = v := by
  have e : oneI m v = .map [(.int .i64 (m : Int), .held v)] := rfl
  rw [e, valAt]
  simp [DataW.atKey, Lit.sameKey, valOf]
section
variable {w : World} {kb fm n xb num : Nat} {now sure : ByteArray} {links : Int}
set_option maxHeartbeats 800000 in
set_option maxRecDepth 100000 in
theorem twin_new (hc : w.heap[kb]? = some (.cells #[.map (some fm)] 77 (0, 0))) (hu : UMap w fm n (.map [])) (hF : FileAt w xb num now sure links) (hnum : num < 1000) (hn : n < 1000) :
    Calls Tryz.prog 61 #[.pointer (some ⟨xb, 0, none⟩), .pointer (some ⟨kb, 0, none⟩)] w fun e w' => e = .returned (.pointer (some ⟨w.heap.size, 0, none⟩)) ∧ FileAt w' w.heap.size num now sure links ∧ UMap w' fm (n + 1) (oneI num (.pointer (some ⟨w.heap.size, 0, none⟩))) ∧ Kept [fm] w w' := by
  have k0 : w.cell? ⟨kb, 0, none⟩ = some (.map (some fm)) := cellAt hc rfl
  have x0 := fl0 hF
  have x1 := fl1 hF
  have x2 := fl2 hF
  have x3 := fl3 hF
  have lk := block_lt hc
  have lx := block_lt hF
  have lf := hu.lt
  have hl1 := look_i (w := w.drew) hu.drew num hnum
  have hv : valAt (.map []) (.int .i64 (num : Int)) = .pointer none := rfl
  rw [hv] at hl1
  obtain ⟨W, hW⟩ : ∃ W, w.alloc (.cells #[.int .i64 (num : Int), .string now, .string sure, .int .i64 links] 82) = W := ⟨_, rfl⟩
  have hkW : Kept [] w W := by rw [← hW]; exact Kept.alloc _ _
  have hFW : FileAt W w.heap.size num now sure links := by rw [← hW]; exact alloc_at rfl
  have huW : UMap W.drew.drew fm n (.map []) := (hkW.map hu (by simp)).drew.drew
  have kW : W.cell? ⟨kb, 0, none⟩ = some (.map (some fm)) := cellAt (hkW.fs hc (by simp)) rfl
  have xW0 := fl0 (hkW.fs hF (by simp))
  obtain ⟨w6, hrun, hu6, ht6⟩ := huW.store (t := 77) kI Tryz.underlying77 (by unfold maxLen; omega) (keyI num hnum) (val := .pointer (some ⟨w.heap.size, 0, none⟩)) rfl
  have hk6 : Kept [fm] w w6 := ((hkW.drew.drew).trans (Kept.of_turned ht6)).sub (by simp)
  have hF6 := hk6.fs hF (by simpa using file_ne_map hF hu)
  have hc6 := hk6.fs hc (by simpa using file_ne_map hc hu)
  have hFN : FileAt w6 w.heap.size num now sure links := (Kept.of_turned ht6).fs hFW (by simp; omega)
  have y0 := fl0 hF6
  have k6 : w6.cell? ⟨kb, 0, none⟩ = some (.map (some fm)) := cellAt hc6 rfl
  have hu6' : UMap w6 fm (n + 1) (oneI num (.pointer (some ⟨w.heap.size, 0, none⟩))) := hu6
  have hl6 := look_i (w := w6.drew) hu6'.drew num hnum
  rw [oneI_val] at hl6
  have HF := hideIt hFN
  have HU := hideIt hu6'
  have HK := hideIt hk6
  clear hc hu hF hkW hFW huW hu6 ht6 hk6 hF6 hc6 hFN hu6' hv
  go_enter Tryz.func61, Tryz.ntmps61
  go_wp2
  go_region
  go_wp2
  go_region
  go_wp2
  go_region
  go_wp2
  go_ret
  exact ⟨rfl, HF.out, HU.out, HK.out.drew⟩
set_option maxHeartbeats 800000 in
set_option maxRecDepth 100000 in
theorem twin_old (hc : w.heap[kb]? = some (.cells #[.map (some fm)] 77 (0, 0))) {x2 : Nat} (hu : UMap w fm n (oneI num (.pointer (some ⟨x2, 0, none⟩)))) (hF : FileAt w xb num now sure links) (hnum : num < 1000) :
    Calls Tryz.prog 61 #[.pointer (some ⟨xb, 0, none⟩), .pointer (some ⟨kb, 0, none⟩)] w fun e w' => e = .returned (.pointer (some ⟨x2, 0, none⟩)) ∧ Kept [] w w' := by
  have k0 : w.cell? ⟨kb, 0, none⟩ = some (.map (some fm)) := cellAt hc rfl
  have x0 := fl0 hF
  have hl1 := look_i (w := w.drew) hu.drew num hnum
  have hl2 := look_i (w := w.drew.drew) hu.drew.drew num hnum
  rw [oneI_val] at hl1 hl2
  clear hc hu hF
  go_enter Tryz.func61, Tryz.ntmps61
  go_wp2
  go_region
  go_wp2
  go_region
  go_wp2
  go_ret
  exact ⟨rfl, (Kept.refl _ _).drew.drew⟩
end
theorem twin_enters : ∀ args w, (callFunc 61 args).run Tryz.prog w = .ok (.enter 61 args) w := enters_of Tryz.func61 (by kernel_rfl) rfl
/-- The function value that makes twins. -/
def twinV (kb : Nat) : Value := .func (.func 61) #[] #[.pointer (some ⟨kb, 0, none⟩)]
theorem one_put (p : ByteArray) (u v : Value) : (one p u).put (key p) (.held v) = one p v := by
  have e : one p u = .map [(key p, .held u)] := rfl
  rw [e]
  simp [DataW.put, one, key, Lit.sameKey]
theorem one_key {p : ByteArray} {u : Value} {kl : Lit} (hl : Maps.has (one p u) kl = true) : kl = key p := by
  have e : one p u = .map [(key p, .held u)] := rfl
  rw [e, Maps.has_eq] at hl
  simp at hl
  exact (WideAt.sameKey_eq hl).symm
theorem Kept.ranges {bs : List Nat} {w w' : World} {k : TypeId} {b r n cnt : Nat} {D : DataW Value} {left : Lit → Bool} (h : Kept bs w w') (hr : w.ranges Tryz.prog k anyE b r n D left cnt) (hb : b ∉ bs) (hrr : r ∉ bs) : w'.ranges Tryz.prog k anyE b r n D left cnt := by
  obtain ⟨es, c, since, seen, c0, h1, h2, h3, h4, h5, h6⟩ := hr
  exact ⟨es, c, since, seen, c0, h.fs h1 hb, h2, h3, h4, h.fs h5 hrr, h6⟩
theorem ranges_ne_map {w : World} {k k2 : TypeId} {b r n cnt m m2 : Nat} {D D2 : DataW Value} {left : Lit → Bool} (h : w.ranges Tryz.prog k anyE b r n D left cnt) (hm : w.ownsMap Tryz.prog k2 anyE m m2 D2) : m ≠ r := by
  obtain ⟨es, c, since, seen, c0, _, _, _, _, h2, _⟩ := h
  obtain ⟨es2, c2, h3, _⟩ := hm
  intro e
  subst e
  rw [h3] at h2
  cases h2
set_option maxHeartbeats 1600000 in
set_option maxRecDepth 100000 in
theorem twins_one {w : World} {kb fm n nm xb num b : Nat} {now sure : ByteArray} {links : Int} (p : ByteArray) (hc : w.heap[kb]? = some (.cells #[.map (some fm)] 77 (0, 0))) (hu : UMap w fm n (.map [])) (hm : NMap w b nm (one p (.pointer (some ⟨xb, 0, none⟩)))) (hF : FileAt w xb num now sure links) (hnum : num < 1000) (hn : n < 1000) (hnm : nm < 1000) (hfb : fm ≠ b) :
    Calls Tryz.prog 62 #[.map (some b), twinV kb] w fun e w' => e = .returned (.map (some w.heap.size)) ∧ ∃ x2, w.heap.size < x2 ∧ NMap w' w.heap.size (nm + 1) (one p (.pointer (some ⟨x2, 0, none⟩))) ∧ FileAt w' x2 num now sure links ∧ UMap w' fm (n + 1) (oneI num (.pointer (some ⟨x2, 0, none⟩))) ∧ Kept [fm] w w' := by
  have HC := hideIt (clone_names hm)
  have HR : Hid (∀ X, Kept [] w X → NMap X b nm (one p (.pointer (some ⟨xb, 0, none⟩))) ∧ FileAt X xb num now sure links ∧ UMap X fm n (.map []) ∧ X.heap[kb]? = some (.cells #[.map (some fm)] 77 (0, 0))) := hideIt (fun X hX => ⟨hX.map hm (by simp), hX.fs hF (by simp), hX.map hu (by simp), hX.fs hc (by simp)⟩)
  have de := twin_enters
  have lf := hu.lt
  have lb := hm.lt
  unfold twinV
  clear hc hu hm hF
  go_enter Tryz.func62, Tryz.ntmps62
  go_wp2_with (first | (go_at_call 55; refine HC.out.mono ?_; rintro e w1 ⟨rfl, hm1, hk1⟩; have HM1 := hideIt hm1; have HK1 := hideIt hk1; clear hm1 hk1) | (at_range; refine wpList_range_own _ rfl _ 75 rfl 9 80 kS Tryz.underlying75 anyE b nm _ rfl (HR.out _ HK1.out).1 ?_; intro w2 hrg2 hg2 hs2))
  go_frame
  have hk12 : Kept [] w1 w2 := Kept.of_grown hg2
  have hk2 : Kept [] w w2 := (HK1.out.trans hk12).sub (by simp)
  have hsz1 := HK1.out.size
  have HW : Hid (∀ X, Kept [w1.heap.size] w2 X → Kept [] w X ∧ NMap X w.heap.size nm (one p (.pointer (some ⟨xb, 0, none⟩)))) := hideIt (fun X hX => ⟨(hk2.trans hX).fresh (by simp; omega), hX.map (hk12.map HM1.out (by simp)) (by have := HM1.out.lt; simp; omega)⟩)
  refine wp_loop_rounds 2 ?_
  rw [rounds_succ]
  go_wp2_with (first | (at_next; refine wpList_next_ranges _ rfl _ rfl 9 kS anyE Value.string (fun v => v) keyS_inv (fun v _ _ => ⟨v, rfl⟩) b _ nm _ _ _ rfl hrg2 (fun h0 => absurd h0 (by rw [one_size]; decide)) ?_; intro x v kl y w3 cnt3 hkx hlx hvy hat hrg3 hlt3 hg3 hs3 hen3; obtain rfl := one_val hlx hvy hat; obtain rfl := one_key hlx; obtain ⟨hk3, hm3⟩ := HW.out w3 (Kept.of_grown hg3); obtain ⟨_, hF3, hu3, hc3⟩ := HR.out w3 hk3; have HT := hideIt (twin_new hc3 hu3 hF3 hnum hn); have HU3 := hideIt hu3; have HM3 := hideIt hm3; have HK3 := hideIt hk3; have HG3 := hideIt hrg3; have HX := hideIt hkx; clear hrg3 hg3 hm3 hk3 hF3 hu3 hc3 hat hvy hlx hkx) | (go_at_call 61; refine HT.out.mono ?_; rintro e w4 ⟨rfl, hF4, hu4, hk4⟩; have HF4 := hideIt hF4; have HU4 := hideIt hu4; have HK4 := hideIt hk4; clear hF4 hu4 hk4) | (at_mapUpdate; refine wpList_mapUpdate_in _ rfl _ _ _ 75 rfl 9 80 kS Tryz.underlying75 anyE w.heap.size nm _ rfl (HK4.out.map HM3.out (by simp; omega)) (by unfold maxLen; omega) _ _ _ rfl rfl HX.out _ [] rfl ?_; intro w5 hm5 ht5))
  have hlb : b < w.heap.size := lb
  have hl1 := HM1.out.lt
  have hrg5 := (Kept.of_turned ht5).ranges (HK4.out.ranges HG3.out (by simpa using fun e => hfb e.symm) (by simp; omega)) (by simp; omega) (by simp; omega)
  rw [one_put] at hm5
  have e3 : w3.heap.size = w1.heap.size + 1 := by rw [hs3, hs2]
  have hm5' : NMap w5 w.heap.size (nm + 1) (one p (.pointer (some ⟨w1.heap.size + 1, 0, none⟩))) := hm5
  rw [← e3] at hm5'
  have hz3 : cnt3 = 0 := by rw [one_size] at hlt3; omega
  have hF5 := (Kept.of_turned ht5).fs HF4.out (by have := HK3.out.size; have := HM3.out.lt; simp; omega)
  have hu5 := (Kept.of_turned ht5).map HU4.out (by simp; omega)
  have hk5 : Kept [fm] w w5 := ((HK3.out.trans HK4.out).trans (Kept.of_turned ht5)).fresh (by simp)
  have hx2 : w.heap.size < w3.heap.size := HM3.out.lt
  rw [rounds_succ]
  go_wp2_with (first | (at_next; refine wpList_next_ranges _ rfl _ rfl 9 kS anyE Value.string (fun v => v) keyS_inv (fun v _ _ => ⟨v, rfl⟩) b _ nm _ _ _ rfl hrg5 ?_ (fun x v kl y w6 cnt6 hkx hlx hvy hat hrg6 hlt6 => absurd hlt6 (by omega)); intro hz hleft))
  go_ret
  exact ⟨rfl, _, hx2, hm5', hF5, hu5, hk5⟩
set_option maxHeartbeats 800000 in
set_option maxRecDepth 100000 in
theorem twins_none {w : World} {nm b : Nat} (v : Value) (hm : NMap w b nm (.map [])) :
    Calls Tryz.prog 62 #[.map (some b), v] w fun e w' => e = .returned (.map (some w.heap.size)) ∧ NMap w' w.heap.size nm (.map []) ∧ Kept [] w w' := by
  have HC := hideIt (clone_names hm)
  have HM := hideIt hm
  clear hm
  go_enter Tryz.func62, Tryz.ntmps62
  go_wp2_with (first | (go_at_call 55; refine HC.out.mono ?_; rintro e w1 ⟨rfl, hm1, hk1⟩; have HM1 := hideIt hm1; have HK1 := hideIt hk1; clear hm1 hk1) | (at_range; refine wpList_range_own _ rfl _ 75 rfl 9 80 kS Tryz.underlying75 anyE b nm _ rfl (HK1.out.map HM.out (by simp)) ?_; intro w2 hrg2 hg2 hs2))
  go_frame
  have hk12 : Kept [] w1 w2 := Kept.of_grown hg2
  refine wp_loop_rounds 1 ?_
  rw [rounds_succ]
  go_wp2_with (first | (at_next; refine wpList_next_ranges _ rfl _ rfl 9 kS anyE Value.string (fun v => v) keyS_inv (fun v _ _ => ⟨v, rfl⟩) b _ nm _ _ _ rfl hrg2 ?_ (fun x v kl y w6 cnt6 hkx hlx hvy hat hrg6 hlt6 => absurd hlt6 (by show ¬ cnt6 < 0; omega)); intro hz hleft))
  go_ret
  exact ⟨rfl, hk12.map HM1.out (by simp), (HK1.out.trans hk12).sub (by simp)⟩
set_option maxHeartbeats 400000 in
set_option maxRecDepth 100000 in
theorem clone_umap {w : World} {b n : Nat} {D : DataW Value} (h : UMap w b n D) : Calls Tryz.prog 86 #[.map (some b)] w fun e w' => e = .returned (.map (some w.heap.size)) ∧ UMap w' w.heap.size n D ∧ Kept [] w w' := by
  obtain ⟨es, clock, hb, F, hs, hD⟩ := h
  have hq := fun w => map_eql 77 _ _ Tryz.underlying77 (some b) w
  go_enter Tryz.func86, Tryz.ntmps86
  go_wp2
  rw [run_callFunc_extern Tryz.func83 (by kernel_rfl) (by kernel_rfl) (by kernel_rfl) (e := Extern.MapsClone.clone) (by kernel_rfl), run_maps_clone_sl w 77 hb]
  simp only [Result.andThen]
  rw [Oper.upon_value]
  go_wp2
  rw [run_typeAssert_map_sl _ 77 20 _ _ _ Tryz.underlying77]
  simp only [Result.andThen]
  rw [Oper.upon_value]
  go_wp2
  go_ret
  exact ⟨rfl, ⟨es, clock, alloc_at rfl, F, hs, hD⟩, Kept.alloc _ _⟩
theorem oneI_put (m : Nat) (u v : Value) : (oneI m u).put (.int .i64 (m : Int)) (.held v) = oneI m v := by
  have e : oneI m u = .map [(.int .i64 (m : Int), .held u)] := rfl
  rw [e]
  simp [DataW.put, oneI, Lit.sameKey]
theorem oneI_at (m : Nat) (v : Value) (kl : Lit) (h : Maps.has (oneI m v) kl = true) (zd : DataW Value) : (oneI m v).atKey kl zd = .held v := by
  have e : oneI m v = .map [(.int .i64 (m : Int), .held v)] := rfl
  rw [e] at h ⊢
  rw [Maps.has_eq] at h
  simp at h
  simp [DataW.atKey, h]
theorem oneI_vl {m : Nat} {u v : Value} {kl : Lit} {y : DataW Value × List MemPlace} (hl : Maps.has (oneI m u) kl = true) (hy : anyE v = some y) (hat : ∀ zd, (oneI m u).atKey kl zd = y.1) : v = u := by
  simp only [anyE, Option.some.injEq] at hy
  have := hat (.held u)
  rw [oneI_at m u kl hl, ← hy] at this
  exact (DataW.held.inj this).symm
theorem oneI_key {m : Nat} {u : Value} {kl : Lit} (hl : Maps.has (oneI m u) kl = true) : kl = .int .i64 (m : Int) := by
  have e : oneI m u = .map [(.int .i64 (m : Int), .held u)] := rfl
  rw [e, Maps.has_eq] at hl
  simp at hl
  exact (WideAt.sameKey_eq hl).symm
theorem oneI_size (m : Nat) (v : Value) : Maps.size (oneI m v) = 1 := rfl
theorem keyI_inv (k : Value) (kl : Lit) (h : keyOf Tryz.prog 3 k = some kl) : ∃ z : Int, k = .int .i64 z := by
  obtain ⟨z, h1, _⟩ := Maps.keyOf_int_inv Tryz.underlying3 h
  exact ⟨z, h1⟩
set_option maxHeartbeats 1600000 in
set_option maxRecDepth 100000 in
theorem twins_unsure {w : World} {kb fm n nm xb x2 num b : Nat} {now sure : ByteArray} {links : Int} (hc : w.heap[kb]? = some (.cells #[.map (some fm)] 77 (0, 0))) (hu : UMap w fm n (oneI num (.pointer (some ⟨x2, 0, none⟩)))) (hm : UMap w b nm (oneI num (.pointer (some ⟨xb, 0, none⟩)))) (hF : FileAt w xb num now sure links) (hnum : num < 1000) (hnm : nm < 1000) :
    Calls Tryz.prog 63 #[.map (some b), twinV kb] w fun e w' => e = .returned (.map (some w.heap.size)) ∧ UMap w' w.heap.size (nm + 1) (oneI num (.pointer (some ⟨x2, 0, none⟩))) ∧ Kept [] w w' := by
  have HC := hideIt (clone_umap hm)
  have HR : Hid (∀ X, Kept [] w X → UMap X b nm (oneI num (.pointer (some ⟨xb, 0, none⟩))) ∧ FileAt X xb num now sure links ∧ UMap X fm n (oneI num (.pointer (some ⟨x2, 0, none⟩))) ∧ X.heap[kb]? = some (.cells #[.map (some fm)] 77 (0, 0))) := hideIt (fun X hX => ⟨hX.map hm (by simp), hX.fs hF (by simp), hX.map hu (by simp), hX.fs hc (by simp)⟩)
  have de := twin_enters
  have lb := hm.lt
  unfold twinV
  clear hc hu hm hF
  go_enter Tryz.func63, Tryz.ntmps63
  go_wp2_with (first | (go_at_call 86; refine HC.out.mono ?_; rintro e w1 ⟨rfl, hm1, hk1⟩; have HM1 := hideIt hm1; have HK1 := hideIt hk1; clear hm1 hk1) | (at_range; refine wpList_range_own _ rfl _ 77 rfl 3 80 kI Tryz.underlying77 anyE b nm _ rfl (HR.out _ HK1.out).1 ?_; intro w2 hrg2 hg2 hs2))
  go_frame
  have hk12 : Kept [] w1 w2 := Kept.of_grown hg2
  have hk2 : Kept [] w w2 := (HK1.out.trans hk12).sub (by simp)
  have hsz1 := HK1.out.size
  have HW : Hid (∀ X, Kept [w1.heap.size] w2 X → Kept [] w X ∧ UMap X w.heap.size nm (oneI num (.pointer (some ⟨xb, 0, none⟩)))) := hideIt (fun X hX => ⟨(hk2.trans hX).fresh (by simp; omega), hX.map (hk12.map HM1.out (by simp)) (by have := HM1.out.lt; simp; omega)⟩)
  refine wp_loop_rounds 2 ?_
  rw [rounds_succ]
  go_wp2_with (first | (at_next; refine wpList_next_ranges _ rfl _ rfl 3 kI anyE (Value.int .i64) (fun v => v) keyI_inv (fun v _ _ => ⟨v, rfl⟩) b _ nm _ _ _ rfl hrg2 (fun h0 => absurd h0 (by rw [oneI_size]; decide)) ?_; intro x v kl y w3 cnt3 hkx hlx hvy hat hrg3 hlt3 hg3 hs3 hen3; obtain rfl := oneI_vl hlx hvy hat; obtain rfl := oneI_key hlx; obtain ⟨hk3, hm3⟩ := HW.out w3 (Kept.of_grown hg3); obtain ⟨_, hF3, hu3, hc3⟩ := HR.out w3 hk3; have HT := hideIt (twin_old hc3 hu3 hF3 hnum); have HM3 := hideIt hm3; have HK3 := hideIt hk3; have HG3 := hideIt hrg3; have HX := hideIt hkx; clear hrg3 hg3 hm3 hk3 hF3 hu3 hc3 hat hvy hlx hkx) | (go_at_call 61; refine HT.out.mono ?_; rintro e w4 ⟨rfl, hk4⟩; have HK4 := hideIt hk4; clear hk4) | (at_mapUpdate; refine wpList_mapUpdate_in _ rfl _ _ _ 77 rfl 3 80 kI Tryz.underlying77 anyE w.heap.size nm _ rfl (HK4.out.map HM3.out (by simp)) (by unfold maxLen; omega) _ _ _ rfl rfl HX.out _ [] rfl ?_; intro w5 hm5 ht5))
  have hlb : b < w.heap.size := lb
  have hl1 := HM1.out.lt
  have hrg5 := (Kept.of_turned ht5).ranges (HK4.out.ranges HG3.out (by simp) (by simp)) (by simp; omega) (by simp; omega)
  rw [oneI_put] at hm5
  have hz3 : cnt3 = 0 := by rw [oneI_size] at hlt3; omega
  have hk5 : Kept [] w w5 := ((HK3.out.trans HK4.out).trans (Kept.of_turned ht5)).fresh (by simp)
  rw [rounds_succ]
  go_wp2_with (first | (at_next; refine wpList_next_ranges _ rfl _ rfl 3 kI anyE (Value.int .i64) (fun v => v) keyI_inv (fun v _ _ => ⟨v, rfl⟩) b _ nm _ _ _ rfl hrg5 ?_ (fun x v kl y w6 cnt6 hkx hlx hvy hat hrg6 hlt6 => absurd hlt6 (by omega)); intro hz hleft))
  go_ret
  exact ⟨rfl, hm5, hk5⟩
end Go.Proofs.YtefefgiooknpkaaGreatDoor
