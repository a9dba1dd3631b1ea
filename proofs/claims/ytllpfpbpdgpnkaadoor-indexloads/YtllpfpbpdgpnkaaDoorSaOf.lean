/- The sum of all that was taken in, and of any text, walked. -/
import Derived.Test.YtllpfpbpdgpnkaaDoorSaWrite
namespace Go.Proofs.YtllpfpbpdgpnkaaDoor.Sa
open Go.RowKit
def Sha.padL (L : Nat) : List UInt8 := (Sha.pad L).data.toList
/-- The sum of bytes. -/
def Sha.sha (M : List UInt8) : ByteArray := Sha.out (Sha.hashed (Sha.fn (M ++ Sha.padL M.length)) ((M ++ Sha.padL M.length).length / 64))
theorem padL_len (L : Nat) : (Sha.padL L).length = Sha.noughts L + 9 := by simp [Sha.padL, Sha.pad, Sha.bstr]
theorem padL_small (L : Nat) : (Sha.padL L).length ≤ 72 := by rw [padL_len, Sha.noughts]; omega
theorem write_str (g : Nat) (M : List UInt8) (h : Nat → BitVec 32) (b : Nat → UInt8) (s : ByteArray) (w : World) (hK : KAt w) (hg : 1 < g)
    (hrow : w.heap[g]? = some (.cells (Sha.stA h b M.length) 85 (0, 0))) (hrep : M ≠ [] → Sha.Rep M h b) (hsz : M.length + s.data.toList.length < 1000000000) :
    Calls Tryd.prog 43 #[.pointer (some ⟨g, 0, none⟩), .string s] w fun e w' => e = .returned (.tuple #[]) ∧ ∃ h' b', StMem g (M.length + s.data.toList.length) h' b' w w' ∧ Sha.Rep (M ++ s.data.toList) h' b' := by
  have e : s = ⟨s.data.toList.toArray⟩ := by cases s; simp
  have := write_any g M h b s.data.toList w hK hg hrow hrep hsz
  rw [← e] at this
  exact this
theorem K_below {B : Nat} {w w' : World} (h : Below B w w') (hB : 1 < B) (hK : KAt w) : KAt w' := fun i hi => by rw [h.cell (p := ⟨1, i, none⟩) hB]; exact hK i hi
theorem K_pos {w : World} (hK : KAt w) : 1 < w.heap.size := block_lt_of_cell (hK 0 (by omega))
theorem copy_below {w : World} (z c : Array Value) (t : TypeId) : Below w.heap.size w ((w.alloc (.cells z t)).setRow w.heap.size c) := below_setRow ((Below.refl _ _).alloc (Nat.le_refl _) _) (Nat.le_refl _) _
theorem sum_K {w wa w1 : World} (hK : KAt w) (h0 : Below w.heap.size w wa) (h1 : Below wa.heap.size wa w1) : KAt w1 := K_below (h0.trans (h1.mono h0.size)) (K_pos hK) hK
theorem sum_row {wa w1 : World} {g : Nat} {o : Obj} (hg : wa.heap[g]? = some o) (h1 : Below wa.heap.size wa w1) : w1.heap[g]? = some o := by
  rw [h1.block g (Array.getElem?_eq_some_iff.1 hg).1, hg]
theorem wpList_load_as {P : Program} {ops : Array Oper} {rest : List Oper} {op : Oper} {a : Act} {w : World} {Q : Exit → Act → World → Prop} (hgd : op.guard = none) (ty : TypeId) (x : Operand) (ho : op.op = .load ty x)
    (b o : Nat) (hx : a.eval x = .pointer (some ⟨b, o, none⟩)) (cs : List Value) (arr : Array Value) (harr : arr = cs.toArray) (d : TypeDesc) (hc : w.rangeAt b o cs)
    (hu : P.underlying ty = some d) (hd : d.isRow = true) (hi : (P.info? ty).map (·.size) = some cs.length)
    (h : wpList P ops Q rest (a.put op.dst (.agg arr)) w) : wpList P ops Q (op :: rest) a w := by
  subst harr
  exact wpList_load_mid hgd ty x ho b o hx cs d hc hu hd hi h
theorem But.below {g : Nat} {w w' : World} (h : But g w w') (hg : g ≤ w.heap.size) : Below g w w' := ⟨h.os, h.tape, h.output, h.size, fun k hk => h.block k (by omega) (by omega)⟩
theorem zero45 (w : World) : (zeroValue 85).run Tryd.prog w = .ok (.agg (Sha.stA (fun _ => 0#32) (fun _ => 0) 0)) w := by kernel_rfl
theorem st_all (h : Nat → BitVec 32) (b : Nat → UInt8) (n : Nat) : (Sha.stA h b n).all (·.oneCell') = true := Array.all_eq_true_iff_forall_mem.2 (fun v hv => by
  have hv' : v ∈ Sha.stL h b n := by simpa [Sha.stA] using hv
  rw [Sha.stL, List.mem_append, List.mem_append] at hv'
  rcases hv' with hv' | hv' | hv'
  · exact Sha.wordsL_one _ _ v hv'
  · exact Sha.bytesL_one _ _ v hv'
  · rw [List.mem_singleton] at hv'; subst hv'; rfl)
set_option maxHeartbeats 400000 in
set_option maxRecDepth 100000 in
theorem sum_any (g : Nat) (M : List UInt8) (h : Nat → BitVec 32) (b : Nat → UInt8) (w : World) (hK : KAt w)
    (hrow : w.heap[g]? = some (.cells (Sha.stA h b M.length) 85 (0, 0))) (hrep : M ≠ [] → Sha.Rep M h b) (hsz : M.length < 100000000) :
    Calls Tryd.prog 44 #[.pointer (some ⟨g, 0, none⟩)] w fun e w' => e = .returned (.string (Sha.sha M)) ∧ Below w.heap.size w w' := by
  have HK := hideIt hK
  have HR := hideIt hrow
  have HP := hideIt hrep
  clear hK hrep
  obtain ⟨n, hn⟩ : ∃ n, M.length = n := ⟨_, rfl⟩
  have cn : w.cell? ⟨g, 72, none⟩ = some (.int .u64 (n : Int)) := by rw [cell_of_row _ _ 72 _ _ _ hrow, Sha.stA_at, hn]; rfl
  have HN := hideIt hn
  clear hrow hn
  have hz45 := zero45
  have hgl : g < w.heap.size := (Array.getElem?_eq_some_iff.1 HR.out).1
  have hp := K_pos HK.out
  have cn2 : ((w.alloc (.cells (Sha.stA (fun _ => 0#32) (fun _ => 0) 0) 85)).setRow w.heap.size (Sha.stA h b M.length)).cell? ⟨g, 72, none⟩ = some (.int .u64 (n : Int)) := by
    rw [World.cell?_of_block (w := w) (a := ⟨g, 72, none⟩) (by rw [setRow_other _ _ _ _ (by simp; omega), Below.heap_alloc _ _ _ hgl]), cn]
  have HB0 := hideIt (copy_below (w := w) (Sha.stA (fun _ => 0#32) (fun _ => 0) 0) (Sha.stA h b M.length) 85)
  have HG0 : Hid (((w.alloc (.cells (Sha.stA (fun _ => 0#32) (fun _ => 0) 0) 85)).setRow w.heap.size (Sha.stA h b M.length)).heap[w.heap.size]? = some (.cells (Sha.stA h b M.length) 85 (0, 0))) := setRow_heap _ _ _ _ _ _ (alloc_at rfl)
  go_enter Tryd.func44, Tryd.ntmps44
  go_wp2_with (first | (refine wpList_load_row rfl 85 _ rfl g rfl _ _ _ _ HR.out Tryd.underlying85 rfl (info45 _ _ _) ?_) | (refine wpList_store_row rfl 85 _ _ rfl _ _ rfl rfl _ _ (alloc_at rfl) (info45 _ _ _) (by rw [stA_size, stA_size]) (st_all _ _ _) ?_) | (go_at_call 52; refine (padding_any n (by have := HN.out; omega) _).mono ?_; rintro e w1 ⟨rfl, hb1⟩) | (go_at_call 43; refine (write_str w.heap.size M h b (Sha.pad n) _ (sum_K HK.out HB0.out hb1) hp (sum_row HG0.out hb1) HP.out (by have := padL_small n; have := HN.out; unfold Sha.padL at *; omega)).mono ?_; rintro e w2 ⟨rfl, h2, b2, hst, hrep2⟩) | (refine wpList_load_as rfl 62 _ rfl w.heap.size 0 rfl (Sha.wordsL 8 h2) (Sha.wordsA 8 h2) rfl _ (st_rangeW hst) Tryd.underlying62 rfl (info39L _) ?_) | (go_at_call 53; refine (out_any h2 _).mono ?_; rintro e w3 ⟨rfl, hb3⟩))
  go_ret
  refine ⟨?_, ?_⟩
  · have e : Sha.sha M = Sha.out h2 := by rw [Sha.sha, Sha.padL, HN.out, ← hrep2.words]
    rw [e]; rfl
  · have b1 := HB0.out.trans (hb1.mono HB0.out.size)
    have b2 : Below w.heap.size w1 w2 := hst.but.below (by have := b1.size; omega)
    exact (b1.trans b2).trans (hb3.mono (by have := b1.size; have := b2.size; omega))
theorem str_len (s : ByteArray) : s.data.toList.length = s.size := by rw [Array.length_toList]; rfl
set_option maxHeartbeats 400000 in
set_option maxRecDepth 100000 in
theorem of_any (s : ByteArray) (w : World) (hK : KAt w) (hsz : s.size < 100000000) :
    Calls Tryd.prog 27 #[.string s] w fun e w' => e = .returned (.string (Sha.sha s.data.toList)) ∧ Below w.heap.size w w' := by
  have HK := hideIt hK
  have hp := K_pos hK
  have ha : Below w.heap.size w (w.alloc (.cells (Sha.stA (fun _ => 0#32) (fun _ => 0) 0) 85)) := (Below.refl _ _).alloc (Nat.le_refl _) _
  have HA := hideIt ha
  have hsl := str_len s
  have HS := hideIt hsl
  clear hK ha hsl
  go_enter Tryd.func27, Tryd.ntmps27
  go_wp2_with (first | (go_at_call 42; refine (new_any _).mono ?_; rintro e w1 ⟨rfl, rfl⟩) | (go_at_call 43; refine (write_str w.heap.size [] (fun _ => 0#32) (fun _ => 0) s _ (K_below HA.out hp HK.out) hp (alloc_at rfl) (fun h => absurd rfl h) (by have := HS.out; simp only [List.length_nil]; omega)).mono ?_; rintro e w2 ⟨rfl, h2, b2, hst, hrep2⟩) | (go_at_call 44; refine (sum_any w.heap.size s.data.toList h2 b2 _ (st_K hst hp (K_below HA.out hp HK.out)) (by have e := hst.row; rw [List.length_nil, Nat.zero_add] at e; exact e) (fun _ => hrep2) (by have := HS.out; omega)).mono ?_; rintro e w3 ⟨rfl, hb3⟩))
  go_ret
  refine ⟨rfl, ?_⟩
  have b2 := hst.but.below (by simp)
  exact (HA.out.trans b2).trans (hb3.mono (by have := HA.out.size; have := b2.size; omega))
end Go.Proofs.YtllpfpbpdgpnkaaDoor.Sa
