/- The keys of a map that holds nothing, gathered and sorted; a map cloned; a map cleared. -/
import Derived.Test.YtefefgiooknpkaaGreatDoorDir
import Derived.Test.YtefefgiooknpkaaGreatDoorIter
import Derived.Shelf.SlMaps.Clone
import Derived.Maps.RangeWalk
import Derived.Sort.MapsRangeIn
namespace Go.Proofs.YtefefgiooknpkaaGreatDoor
open Go.RowKit Go.Shelf Go.Maps Go.Sort Go.ChangeMaps Go.MapKept
variable {B0 : Nat}
theorem sorts_in (m : Nat) : AnyZI.SortsIn Tryz.prog Tryz.sortedI_ren Fence.wide m :=
  ⟨fun blk off cap ss W hH hblk hsz => callsIn_wide.2 (Tryz.slices_Sort_int blk off cap ss W hH hblk hsz),
   fun p cap W => callsIn_wide.2 (Tryz.slices_Sort_int_none p cap W)⟩
theorem keys_any (mb : Option Nat) (W : World) : Calls Tryz.prog 53 #[.map mb] W fun e w' => e = .returned (.func (.func 82) #[] #[.pointer (some ⟨W.heap.size, 0, none⟩)]) ∧ w' = W.alloc (.cells #[.map mb] 77) :=
  (callsIn_wide (n := 5)).1 (AnyZI.keys_in Tryz.keysI Fence.wide 5 trivial rfl mb W)
theorem sorted_none (W : World) (pb b n : Nat) (hc : W.cell? ⟨pb, 0, none⟩ = some (.map (some b))) (hlt : pb < W.heap.size) (hm : UMap W b n (.map [])) :
    Calls Tryz.prog 52 #[.func (.func 82) #[] #[.pointer (some ⟨pb, 0, none⟩)]] W fun e w' => e = .returned (.slice none 0 0) ∧ Kept [] W w' := by
  have hseq : SeqGives Fence.wide 2 Tryz.prog 82 #[.pointer (some ⟨pb, 0, none⟩)] encZ (fun ss => ss.Perm (intKeys (DataW.map (H := Value) []))) (Maps.size (DataW.map (H := Value) [])) W :=
    AnyZI.keys_gives (ρ := Tryz.keysI_ren) { Tryz.keysI with } Fence.wide _ trivial rfl (by omega) pb b n _ _ hlt hc hm
  have cS := AnyZI.sorted_in Tryz.sortedI Fence.wide 5 trivial trivial trivial trivial rfl (by omega) (sorts_in _) (enters_of Tryz.func81 (by kernel_rfl) rfl) 82 #[.pointer (some ⟨pb, 0, none⟩)] trivial (enters_of Tryz.func82 (by kernel_rfl) rfl) _ _ (by decide) (by decide) _ hseq
  refine ((callsIn_wide (n := 5)).1 cS).mono fun e w' ⟨v, ss, he, hS, hrow, hnil, hb⟩ => ?_
  have hss : ss = [] := by
    have := hS.length_eq
    exact List.eq_nil_of_length_eq_zero (by rw [this]; rfl)
  exact ⟨by rw [he, hnil.2 hss], Kept.of_below hb⟩
theorem map_eql (t : TypeId) (k e : TypeId) (ht : Tryz.prog.underlying t = some (.map k e)) (p : Option Nat) (w : World) : (binOp .eql t (.map p) (.map none)).run Tryz.prog w = .ok (.bool p.isNone) w := run_eql_map_nil_sl w t k e p ht
set_option maxHeartbeats 400000 in
set_option maxRecDepth 100000 in
theorem clone_names {w : World} {b n : Nat} {D : DataW Value} (h : NMap w b n D) : Calls Tryz.prog 55 #[.map (some b)] w fun e w' => e = .returned (.map (some w.heap.size)) ∧ NMap w' w.heap.size n D ∧ Kept [] w w' := by
  obtain ⟨es, clock, hb, F, hs, hD⟩ := h
  have hq := fun w => map_eql 75 _ _ Tryz.underlying75 (some b) w
  go_enter Tryz.func55, Tryz.ntmps55
  go_wp2
  rw [run_callFunc_extern Tryz.func83 (by kernel_rfl) (by kernel_rfl) (by kernel_rfl) (e := Extern.MapsClone.clone) (by kernel_rfl), run_maps_clone_sl w 75 hb]
  simp only [Result.andThen]
  rw [Oper.upon_value]
  go_wp2
  rw [run_typeAssert_map_sl _ 75 20 _ _ _ Tryz.underlying75]
  simp only [Result.andThen]
  rw [Oper.upon_value]
  go_wp2
  go_ret
  exact ⟨rfl, ⟨es, clock, alloc_at rfl, F, hs, hD⟩, Kept.alloc _ _⟩
theorem clear_run {w : World} {b n : Nat} {D : DataW Value} (h : UMap w b n D) : ∃ w', (∀ ty, (Builtin.clear_ #[77] ty #[.map (some b)]).run Tryz.prog w = .ok (.tuple #[]) w') ∧ UMap w' b 0 (.map []) ∧ Kept [b] w w' := by
  obtain ⟨es, clock, hb, F, hs, hD⟩ := h
  refine ⟨setBlock w b (.map #[] clock), ?_, ⟨#[], clock, heap_setBlock_same hb _, ?_, Nat.le_refl _, rfl⟩, ?_⟩
  · intro ty
    simp [Builtin.clear_, run_underlying Tryz.underlying77, MapKept.run_getObj_map hb, MapKept.run_setObj_map _ hb, Result.andThen, setBlock]
  · exact ⟨by simp, stamped_empty clock, by simp⟩
  · exact ⟨rfl, rfl, rfl, by simp [setBlock], fun k _ hk => heap_setBlock_other hb _ (by simpa using hk)⟩
/-- A map with one name. -/
def one (p : ByteArray) (v : Value) : DataW Value := DataW.put (.map []) (key p) (.held v)
theorem one_at (p : ByteArray) (v : Value) (kl : Lit) (h : Maps.has (one p v) kl = true) (zd : DataW Value) : (one p v).atKey kl zd = .held v := by
  have e : one p v = .map [(key p, .held v)] := rfl
  rw [e] at h ⊢
  rw [Maps.has_eq] at h
  simp at h
  simp [DataW.atKey, h]
theorem one_size (p : ByteArray) (v : Value) : Maps.size (one p v) = 1 := rfl
theorem keyS_inv (k : Value) (kl : Lit) (h : keyOf Tryz.prog 9 k = some kl) : ∃ s : ByteArray, k = .string s := by
  exact Maps.keyOf_string_inv Tryz.underlying9 h
theorem grown_set (w : World) (b i : Nat) (v : Value) : w.grownBy (w.setCell ⟨b, i, none⟩ v) (some b) :=
  ⟨rfl, rfl, rfl, by simp [World.setCell], fun k _ hk => Below.heap_setCell _ _ _ _ (fun e => hk (by rw [e]))⟩
theorem ranges_ne {w : World} {b r n cnt xb : Nat} {D : DataW Value} {left : Lit → Bool} {arr : Array Value} {t : TypeId} (h : w.ranges Tryz.prog 9 anyE b r n D left cnt) (hx : w.heap[xb]? = some (.cells arr t (0, 0))) : xb ≠ b ∧ xb ≠ r := by
  obtain ⟨es, c, since, seen, c0, h1, _, _, _, h2, _⟩ := h
  constructor
  · intro e; subst e; rw [hx] at h1; cases h1
  · intro e; subst e; rw [hx] at h2; cases h2
theorem ranges_drew {w : World} {b r n cnt : Nat} {D : DataW Value} {left : Lit → Bool} (h : w.ranges Tryz.prog 9 anyE b r n D left cnt) : w.drew.ranges Tryz.prog 9 anyE b r n D left cnt := by
  unfold World.ranges at h ⊢
  exact h
theorem one_val {p : ByteArray} {u v : Value} {kl : Lit} {y : DataW Value × List MemPlace} (hl : Maps.has (one p u) kl = true) (hy : anyE v = some y) (hat : ∀ zd, (one p u).atKey kl zd = y.1) : v = u := by
  simp only [anyE, Option.some.injEq] at hy
  have := hat (.held u)
  rw [one_at p u kl hl, ← hy] at this
  exact (DataW.held.inj this).symm
set_option maxHeartbeats 1600000 in
set_option maxRecDepth 100000 in
theorem count_one {w : World} {fb nb n xb : Nat} {sv dv uv : Value} {came used room steps : Int} {dead : Bool} {num : Nat} {now sure : ByteArray} {links : Int} (p : ByteArray) (h : FsAt w fb (.map (some nb)) sv dv uv came used room steps dead) (hm : NMap w nb n (one p (.pointer (some ⟨xb, 0, none⟩)))) (hF : FileAt w xb num now sure links) (hfx : fb ≠ xb) (hs : now.size ≤ 1000) :
    Calls Tryz.prog 56 #[.pointer (some ⟨fb, 0, none⟩)] w fun e w' => e = .returned (.tuple #[]) ∧ FsAt w' fb (.map (some nb)) sv dv uv came now.size room steps dead ∧ FileAt w' xb num now sure 1 ∧ Kept [fb, xb] w w' := by
  have c0 := fs0 h
  have HF := hideIt hF
  have HH := hideIt h
  have HM := hideIt hm
  clear h hm hF
  go_enter Tryz.func56, Tryz.ntmps56
  go_wp2_with (first | (at_range; refine wpList_range_own _ rfl _ 75 rfl 9 80 kS Tryz.underlying75 anyE nb n _ rfl HM.out ?_; intro w1 hrg1 hg1 hs1))
  go_frame
  have hkA : Kept [] w w1 := Kept.of_grown hg1
  have HW : Hid (∀ X, Kept [w.heap.size] w1 X → FileAt X xb num now sure links ∧ FsAt X fb (.map (some nb)) sv dv uv came used room steps dead) := hideIt (fun X hX =>
    ⟨hX.fs (hkA.fs HF.out (by simp)) (by have := block_lt HF.out; simp; omega), hX.fs (hkA.fs HH.out (by simp)) (by have := block_lt HH.out; simp; omega)⟩)
  refine wp_loop_rounds 2 ?_
  rw [rounds_succ]
  go_wp2_with (first | (at_next; refine wpList_next_ranges _ rfl _ rfl 9 kS anyE Value.string (fun v => v) keyS_inv (fun v _ _ => ⟨v, rfl⟩) nb _ n _ _ _ rfl hrg1 (fun h0 => absurd h0 (by rw [one_size]; decide)) ?_; intro x v kl y w2 cnt2 hkx hlx hvy hat hrg2 hlt2 hg2 hs2 hen2; obtain rfl := one_val hlx hvy hat; obtain ⟨hF2, hH2⟩ := HW.out w2 (Kept.of_grown hg2); have x3 := fl3 hF2; have x3f := thawAt hF2 3))
  have hne2 := ranges_ne hrg2 hF2
  have hrg3 := hrg2.kept (grown_set w2 xb 3 (.int .i64 0)) (by simpa using fun e => hne2.1 e.symm) (by simpa using fun e => hne2.2 e.symm)
  have hF3 : FileAt (w2.setCell ⟨xb, 3, none⟩ (.int .i64 0)) xb num now sure 0 := by
    unfold FileAt
    rw [heap_setCell_same w2 xb 3 _ 82 _ hF2]
    rfl
  have hH3 : FsAt (w2.setCell ⟨xb, 3, none⟩ (.int .i64 0)) fb (.map (some nb)) sv dv uv came used room steps dead := (Kept.set xb 3 _).fs hH2 (by simpa using hfx)
  have hm3 : NMap (w2.setCell ⟨xb, 3, none⟩ (.int .i64 0)) nb n (one p (.pointer (some ⟨xb, 0, none⟩))) := hrg3.owns
  have hk3 : Kept [xb] w (w2.setCell ⟨xb, 3, none⟩ (.int .i64 0)) := ((hkA.trans (Kept.of_grown hg2)).trans (Kept.set xb 3 _)).fresh (by simp)
  generalize w2.setCell ⟨xb, 3, none⟩ (.int .i64 0) = W3 at hrg3 hF3 hH3 hm3 hk3 ⊢
  have hz2 : cnt2 = 0 := by rw [one_size] at hlt2; omega
  have e5 := fs5 hH3
  have e5f := thawAt hH3 5
  clear hrg2 hF2 hH2 hg2 hs2 hen2 x3 x3f hat hvy hlx hkx hrg1 hg1 hs1 hkA HW c0
  have hH4 : FsAt (W3.setCell ⟨fb, 5, none⟩ (.int .i64 0)) fb (.map (some nb)) sv dv uv came 0 room steps dead := by
    unfold FsAt
    rw [heap_setCell_same W3 fb 5 _ 79 _ hH3]
    rfl
  have hF4 : FileAt (W3.setCell ⟨fb, 5, none⟩ (.int .i64 0)) xb num now sure 0 := (Kept.set fb 5 _).fs hF3 (by simpa using fun e => hfx e.symm)
  have hm4 : NMap (W3.setCell ⟨fb, 5, none⟩ (.int .i64 0)) nb n (one p (.pointer (some ⟨xb, 0, none⟩))) := (Kept.set fb 5 _).map hm3 (by simpa using fun e => file_ne_map hH3 hm3 e.symm)
  have hk4 : Kept [fb, xb] w (W3.setCell ⟨fb, 5, none⟩ (.int .i64 0)) := (hk3.trans (Kept.set fb 5 _)).sub (by simp)
  have HM4 := hideIt hm4
  have HF4 := hideIt hF4
  have HH4 := hideIt hH4
  have HK4 := hideIt hk4
  have c04 := fs0 hH4
  clear hH3 hF3 hm3 hk3 hH4 hF4 hm4 hk4
  rw [rounds_succ]
  go_wp2_with (first | (at_next; refine wpList_next_ranges _ rfl _ rfl 9 kS anyE Value.string (fun v => v) keyS_inv (fun v _ _ => ⟨v, rfl⟩) nb _ n _ _ _ rfl hrg3 ?_ (fun x v kl y w5 cnt5 hkx hlx hvy hat hrg5 hlt5 => absurd hlt5 (by omega)); intro hz hleft) | (at_range; refine wpList_range_own _ rfl _ 75 rfl 9 80 kS Tryz.underlying75 anyE nb n _ rfl HM4.out ?_; intro w6 hrg6 hg6 hs6))
  go_frame
  have hkB : Kept [] (W3.setCell ⟨fb, 5, none⟩ (.int .i64 0)) w6 := Kept.of_grown hg6
  have hszB : (W3.setCell ⟨fb, 5, none⟩ (.int .i64 0)).heap.size = W3.heap.size := by simp [World.setCell]
  have HW : Hid (∀ X, Kept [(W3.setCell ⟨fb, 5, none⟩ (.int .i64 0)).heap.size] w6 X → FileAt X xb num now sure 0 ∧ FsAt X fb (.map (some nb)) sv dv uv came 0 room steps dead) := hideIt (fun X hX =>
    ⟨hX.fs (hkB.fs HF4.out (by simp)) (by have := block_lt HF4.out; simp; omega), hX.fs (hkB.fs HH4.out (by simp)) (by have := block_lt HH4.out; simp; omega)⟩)
  have hwr : IntKind.i64.wrap (now.size : Int) = (now.size : Int) := by rw [IntKind.wrap_i64]; omega
  refine wp_loop_rounds 2 ?_
  rw [rounds_succ]
  go_wp2_with (first | (at_next; refine wpList_next_ranges _ rfl _ rfl 9 kS anyE Value.string (fun v => v) keyS_inv (fun v _ _ => ⟨v, rfl⟩) nb _ n _ _ _ rfl hrg6 (fun h0 => absurd h0 (by rw [one_size]; decide)) ?_; intro x v kl y w7 cnt7 hkx hlx hvy hat hrg7 hlt7 hg7 hs7 hen7; obtain rfl := one_val hlx hvy hat; obtain ⟨hF7, hH7⟩ := HW.out w7 (Kept.of_grown hg7); have x3 := fl3 hF7; have x3f := thawAt hF7 3; have x1 := fl1 hF7; have y5 := fs5 hH7; have y5f := thawAt hH7 5; rw [hszB] at hen7))
  go_region
  rw [hszB] at hrg7
  have hne7 := ranges_ne hrg7 hF7
  have hnf7 := ranges_ne hrg7 hH7
  have hrg8 := (hrg7.kept (grown_set w7 fb 5 (.int .i64 (now.size : Int))) (by simpa using fun e => hnf7.1 e.symm) (by simpa using fun e => hnf7.2 e.symm)).kept (grown_set _ xb 3 (.int .i64 1)) (by simpa using fun e => hne7.1 e.symm) (by simpa using fun e => hne7.2 e.symm)
  have hF8 : FileAt (w7.setCell ⟨fb, 5, none⟩ (.int .i64 (now.size : Int))) xb num now sure 0 := (Kept.set fb 5 _).fs hF7 (by simpa using fun e => hfx e.symm)
  have z3 := fl3 hF8
  have z3f := thawAt hF8 3
  have hF9 : FileAt ((w7.setCell ⟨fb, 5, none⟩ (.int .i64 (now.size : Int))).setCell ⟨xb, 3, none⟩ (.int .i64 1)) xb num now sure 1 := by
    unfold FileAt
    rw [heap_setCell_same _ xb 3 _ 82 _ hF8]
    rfl
  have hH8 : FsAt (w7.setCell ⟨fb, 5, none⟩ (.int .i64 (now.size : Int))) fb (.map (some nb)) sv dv uv came now.size room steps dead := by
    unfold FsAt
    rw [heap_setCell_same w7 fb 5 _ 79 _ hH7]
    rfl
  have hH9 := (Kept.set (w := w7.setCell ⟨fb, 5, none⟩ (.int .i64 (now.size : Int))) xb 3 (.int .i64 1)).fs hH8 (by simpa using hfx)
  have HK9 : Hid (Kept [fb, xb] w ((w7.setCell ⟨fb, 5, none⟩ (.int .i64 (now.size : Int))).setCell ⟨xb, 3, none⟩ (.int .i64 1))) := hideIt (((((HK4.out.trans hkB).trans (Kept.of_grown hg7)).trans (Kept.set fb 5 _)).trans (Kept.set xb 3 _)).fresh (by have := HK4.out.size; intro a ha; simp at ha ⊢; omega))
  have HF9 := hideIt hF9
  have HH9 := hideIt hH9
  have hrg9 := ranges_drew hrg8
  have hz7 : cnt7 = 0 := by rw [one_size] at hlt7; omega
  clear hF7 hH7 hF8 hF9 hH8 hH9 hrg7 hg7 hs7 hen7 x1 x3 x3f y5 y5f hat hvy hlx hkx
  go_wp2
  rw [rounds_succ]
  go_wp2_with (first | (at_next; refine wpList_next_ranges _ rfl _ rfl 9 kS anyE Value.string (fun v => v) keyS_inv (fun v _ _ => ⟨v, rfl⟩) nb _ n _ _ _ rfl hrg9 ?_ (fun x v kl y w5 cnt5 hkx hlx hvy hat hrg5 hlt5 => absurd hlt5 (by omega)); intro hz hleft))
  exact bodyPost_end (results_none Tryz.results56 _ _ _) rfl ⟨rfl, HH9.out, HF9.out, HK9.out.drew⟩
end Go.Proofs.YtefefgiooknpkaaGreatDoor
