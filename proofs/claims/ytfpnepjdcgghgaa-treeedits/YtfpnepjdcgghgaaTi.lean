/- An id of one letter, and entries as the document has them, walked. -/
import Derived.Test.YtfpnepjdcgghgaaTu
namespace Go.Proofs.Ytfpnepjdcgghgaa
open Go.RowKit Go.Shelf
def u8s (l : List UInt8) : List Value := l.map fun b => .int .u8 (b.toNat : Int)
theorem u8s_len (l : List UInt8) : (u8s l).length = l.length := by simp [u8s]
theorem ints_back (l : List UInt8) : strOfNums (l.map fun b => (b.toNat : Int)) = bs l := by
  have : ∀ l : List UInt8, List.map ((fun n : Int => UInt8.ofNat n.toNat) ∘ fun b : UInt8 => (b.toNat : Int)) l = l := by
    intro l
    induction l with
    | nil => rfl
    | cons b t ih => rw [List.map_cons, ih]; simp
  simp [strOfNums, bs, this]
theorem u8s_at (l : List UInt8) (j : Nat) (h : j < l.length) : (u8s l)[j]? = some (.int .u8 ((l[j]).toNat : Int)) := by simp [u8s, h]
/-- The bytes of a slice that the call owns, as a text. -/
theorem run_own {B n : Nat} {v : Value} {l : List UInt8} {w : World} (h : w.ownsRow B 5 1 v n (u8s l)) : (convert 48 9 v).run Try.prog w = .ok (.string (bs l)) w := by
  have hl := h.1
  rw [u8s_len, Nat.mul_one] at hl
  have h0 := h
  rcases h.2 with ⟨rfl, rfl⟩ | ⟨g, cap, cur, rfl, _, _, _, _, _, _⟩
  · have : l = [] := List.eq_nil_of_length_eq_zero hl
    subst this
    exact run_convert_bytes_nil (P := Try.prog) w 48 5 Try.underlying48 Try.underlying5 0 0 9 Try.underlying9
  · rw [← ints_back]
    refine run_convert_bytes_arg (P := Try.prog) w 48 5 Try.underlying48 Try.underlying5 g 0 n cap _ (by simp [hl]) (fun i hi => ?_) 9 Try.underlying9
    rw [Nat.zero_add, h0.cellAt i (by omega), u8s_at l i (by omega)]
    simp [List.getD, show i < l.length by omega]
theorem own_ge {B n : Nat} {v : Value} {xs : List Value} {w : World} (h : w.ownsRow B 5 1 v n xs) : ∀ k, v.ownBlock = some k → B ≤ k := by
  intro k hk
  rcases h.2 with ⟨rfl, rfl⟩ | ⟨g, cap, cur, rfl, hb, _, _, _, _, _⟩
  · simp [Value.ownBlock] at hk
  · simp [Value.ownBlock] at hk; omega
def idS (c : UInt8) : ByteArray := bs (List.replicate 32 c)
theorem idS_size (c : UInt8) : (idS c).size = 32 := by rw [idS, bs_size]; simp
theorem one_byte {w : World} (c : Int) (t : TypeId) (j : Nat) (u : Value) (h : [Value.int .u8 c][j]? = some u) : (w.alloc (.cells #[.int .u8 c] t)).cell? ((⟨w.heap.size, 0, none⟩ : Addr).add j) = some u := by
  have hrow : (w.alloc (.cells #[.int .u8 c] t)).heap[w.heap.size]? = some (.cells #[.int .u8 c] t (0, 0)) := alloc_at rfl
  match j, h with
  | 0, h => exact cellAt hrow (by simpa using h)
  | j + 1, h => simp at h
set_option maxHeartbeats 1600000 in
set_option maxRecDepth 100000 in
theorem id_any (c : UInt8) (w : World) : Calls Try.prog 19 #[.int .u8 (c.toNat : Int)] w fun e w' => e = .returned (.string (idS c)) ∧ Below w.heap.size w w' := by
  obtain ⟨i0, hi0, hz0, hz1, hz2⟩ := info_parts infoU
  have HI : Hid (idS c = bs (List.replicate 32 c)) := rfl
  obtain ⟨x, hx⟩ : ∃ x : Int, (c.toNat : Int) = x := ⟨_, rfl⟩
  rw [hx]
  have HX := hideIt hx
  clear hx
  go_enter Try.func19, Try.ntmps19
  go_wp2
  go_loopw [3, 4] (fun u t wr => ∃ i : Nat, i ≤ 32 ∧ t = .int .i64 i ∧ wr.ownsRow w.heap.size 5 1 u i (u8s (List.replicate i c)) ∧ Below w.heap.size w wr) (fun _ t _ => 32 - (intOf t).toNat)
  case atStart => exact ⟨0, by omega, rfl, ⟨rfl, .inr ⟨w.heap.size, 0, #[], rfl, Nat.le_refl _, alloc_at rfl, by simp, by simp, rfl, rfl⟩⟩, (Below.refl _ _).alloc (Nat.le_refl _) _⟩
  case round =>
    obtain ⟨i, hi, rfl, ho, hb⟩ := hrel
    have HO := hideIt ho
    have HB := hideIt hb
    have hws : w.heap.size ≤ wr.heap.size := hb.size
    have hro := run_own ho
    clear ho hb
    by_cases hlt : i < 32
    · have i1 : (i : Int) < 32 := by omega
      have i2 : decide ((i : Int) < 32) = true := decide_eq_true i1
      clear hro
      go_wp2_with (first | (at_builtin; refine wpList_append_own _ rfl _ _ 48 rfl w.heap.size 5 i0 (.int .u8 0) 1 1 Try.underlying48 hi0 hz0 hz1 hz2 rfl (by decide) _ _ _ rfl (HO.out.alloc _) ⟨wr.heap.size, 0, none⟩ 1 1 [.int .u8 x] rfl rfl (one_byte x _) (fun u hu => by simp at hu; subst hu; rfl) (by unfold maxLen; omega) (by omega) (by simp; omega) ?_; intro v3 w3 hown3 hg3 hnil3))
      go_roundw
      case rel =>
        refine ⟨i + 1, by omega, by go_num, ?_, Below.grown (HB.out.alloc (by omega) _) hg3 (by simp; omega) (own_ge HO.out)⟩
        have e : u8s (List.replicate (i + 1) c) = u8s (List.replicate i c) ++ [.int .u8 x] := by
          rw [List.replicate_succ', u8s, List.map_append, ← HX.out]
          rfl
        rw [e]
        exact hown3
      case measure => simp [intOf]; omega
    · obtain rfl : i = 32 := by omega
      go_wp2
      go_ret
      exact ⟨by rw [HI.out]; rfl, HB.out⟩
theorem infoR : (Try.prog.info? 40).map (fun i => (i.zero, i.size, i.bytes)) = some (some (.agg #[.string ⟨#[]⟩, .int .i64 0, .string ⟨#[]⟩]), 3, 40) := by kernel_rfl
def RowTo (w : World) (l : List En) (e : Ending) (w' : World) : Prop := ∃ v, e = .returned v ∧ ERow w' v l ∧ Below w.heap.size w w'
set_option maxHeartbeats 1600000 in
set_option maxRecDepth 100000 in
theorem conv_any (v : Value) (l : List En) (w : World) (h : ERow w v l) (hn : l.length ≤ 1000) : Calls Try.prog 11 #[v] w fun e w' => RowTo w l e w' := by
  obtain ⟨i0, hi0, hz0, hz1, hz2⟩ := info_parts infoR
  have HT : Hid (∀ e w', RowTo w l e w' ↔ ∃ v, e = .returned v ∧ ERow w' v l ∧ Below w.heap.size w w') := hideIt (fun _ _ => Iff.rfl)
  obtain ⟨a, c, rfl, hlc, hcm, hrow⟩ := h
  have HR := hideIt hrow
  obtain ⟨n, hnn⟩ : ∃ n, l.length = n := ⟨_, rfl⟩
  rw [hnn] at hlc hn ⊢
  have HN := hideIt hnn
  have nI : (n : Int) ≤ 1000 := by omega
  clear hnn hrow
  go_enter Try.func11, Try.ntmps11
  go_wp2
  go_loopw [3, 4] (fun u t wr => ∃ i : Nat, i ≤ n ∧ t = .int .i64 i ∧ wr.ownsRow w.heap.size 40 3 u i (esV (l.take i)) ∧ Below w.heap.size w wr) (fun _ t _ => n - (intOf t).toNat)
  case atStart => exact ⟨0, by omega, rfl, ⟨rfl, .inr ⟨w.heap.size, 0, #[], rfl, Nat.le_refl _, alloc_at rfl, by simp, by simp, rfl, rfl⟩⟩, (Below.refl _ _).alloc (Nat.le_refl _) _⟩
  case round =>
    obtain ⟨i, hi, rfl, ho, hb⟩ := hrel
    have HO := hideIt ho
    have HB := hideIt hb
    have hws : w.heap.size ≤ wr.heap.size := hb.size
    clear ho hb
    by_cases hlt : i < n
    · have i1 : (i : Int) < (n : Int) := by omega
      have i2 : decide ((i : Int) < (n : Int)) = true := decide_eq_true i1
      obtain ⟨b, o, rfl, hcells⟩ := HR.out (by rw [HN.out]; omega)
      obtain ⟨x, hxi⟩ : ∃ x, l[i]? = some x := ⟨l[i]'(by rw [HN.out]; exact hlt), by simp⟩
      obtain ⟨c0, c1, c2⟩ := (hcells.below HB.out).2 i x hxi
      have HXI := hideIt hxi
      clear hcells hxi
      go_wp2_with (first | (at_builtin; refine wpList_append_own _ rfl _ _ 29 rfl w.heap.size 40 i0 (.agg #[.string ⟨#[]⟩, .int .i64 0, .string ⟨#[]⟩]) 3 40 Try.underlying29 hi0 hz0 hz1 hz2 rfl (by decide) _ _ _ rfl (HO.out.alloc _) ⟨wr.heap.size, 0, none⟩ 1 1 [.string x.nm, .int .i64 x.md, .string x.ids] rfl rfl (three_new x _) (fun u hu => by simp at hu; rcases hu with rfl | rfl | rfl <;> rfl) (by unfold maxLen; omega) (by omega) (by simp; omega) ?_; intro v3 w3 hown3 hg3 hnil3))
      go_roundw
      case rel =>
        refine ⟨i + 1, by omega, by go_num, ?_, Below.grown (HB.out.alloc (by omega) _) hg3 (by simp; omega) (row_ge HO.out)⟩
        have e : esV (l.take (i + 1)) = esV (l.take i) ++ [.string x.nm, .int .i64 x.md, .string x.ids] := by
          rw [List.take_add_one, HXI.out]
          exact esV_snoc _ _
        rw [e]
        exact hown3
      case measure => simp [intOf]; omega
    · obtain rfl : i = n := by omega
      have i2 : decide ((i : Int) < (i : Int)) = false := decide_eq_false (by omega)
      go_wp2
      go_ret
      refine (HT.out _ _).2 ⟨_, rfl, ?_, HB.out⟩
      have := HO.out
      rw [← HN.out, List.take_length] at this
      exact ERow.of_row this
end Go.Proofs.Ytfpnepjdcgghgaa
