/- Trees: the place of a name, and its entry, walked. -/
import Derived.Test.YtfpnepjdcgghgaaTb
namespace Go.Proofs.Ytfpnepjdcgghgaa
open Go.RowKit Go.Shelf
theorem pos_le (l : List En) (t : ByteArray) : pos l t ≤ l.length := List.countP_le_length
theorem found_lt (l : List En) (t : ByteArray) (h : found l t = true) : pos l t < l.length := by
  unfold found at h
  cases hx : l[pos l t]? with
  | none => rw [hx] at h; cases h
  | some x => exact (List.getElem?_eq_some_iff.1 hx).1
set_option maxHeartbeats 800000 in
set_option maxRecDepth 100000 in
theorem place_any (v : Value) (l : List En) (t : ByteArray) (w : World) (h : ERow w v l) (hn : l.length ≤ 1000000) (hu : Up l) :
    Calls Try.prog 28 #[v, .string t] w fun e w' => e = .returned (.tuple #[.int .i64 (pos l t : Nat), .int .i64 (pos l t + (found l t).toNat : Nat)]) ∧ Below w.heap.size w w' := by
  have HS := hideIt (search_any v l t w h hn hu)
  have hp := pos_le l t
  obtain ⟨p, hpp⟩ : ∃ p, pos l t = p := ⟨_, rfl⟩
  obtain ⟨f, hf⟩ : ∃ f, found l t = f := ⟨_, rfl⟩
  rw [hpp, hf] at HS ⊢
  rw [hpp] at hp
  have pI : (p : Int) ≤ 1000000 := by omega
  clear hpp hf
  cases f with
  | false =>
    go_enter Try.func28, Try.ntmps28
    go_wp2_with (first | (go_at_call 36; refine HS.out.mono ?_; rintro e w1 ⟨rfl, hb1⟩))
    go_ret2
    exact ⟨rfl, hb1⟩
  | true =>
    go_enter Try.func28, Try.ntmps28
    go_wp2_with (first | (go_at_call 36; refine HS.out.mono ?_; rintro e w1 ⟨rfl, hb1⟩))
    go_ret2
    exact ⟨rfl, hb1⟩
def entA : Option En → Value
  | some x => .tuple #[enA x, .bool true]
  | none => .tuple #[enA noEn, .bool false]
/-- The entry of a name, if there is one. -/
def lookE (l : List En) (t : ByteArray) : Option En := if found l t = true then l[pos l t]? else none
set_option maxHeartbeats 1600000 in
set_option maxRecDepth 100000 in
theorem get_any (v : Value) (l : List En) (t : ByteArray) (w : World) (h : ERow w v l) (hn : l.length ≤ 1000000) (hu : Up l) :
    Calls Try.prog 18 #[v, .string t] w fun e w' => e = .returned (entA (lookE l t)) ∧ Below w.heap.size w w' := by
  obtain ⟨W, hW⟩ : ∃ W, w.alloc (.cells #[.string ⟨#[]⟩, .int .i64 0, .string ⟨#[]⟩] 36) = W := ⟨_, rfl⟩
  have hbW : Below w.heap.size w W := by rw [← hW]; exact (Below.refl _ _).alloc (Nat.le_refl _) _
  have hbox : Has W w.heap.size := by rw [← hW]; exact alloc_at rfl
  have HS := hideIt (place_any v l t W (h.below hbW) hn hu)
  have HK : Hid (∀ w1, Below W.heap.size W w1 → Zero w1 w.heap.size) := hideIt (fun w1 h1 => (hbox.below h1).zero)
  have HBW := hideIt hbW
  have HFL := hideIt (found_lt l t)
  have HL : Hid (lookE l t = if found l t = true then l[pos l t]? else none) := rfl
  have HR := hideIt (h.below hbW)
  obtain ⟨a, c, rfl, hlc, hcm, _⟩ := h
  obtain ⟨n, hnn⟩ : ∃ n, l.length = n := ⟨_, rfl⟩
  obtain ⟨p, hpp⟩ : ∃ p, pos l t = p := ⟨_, rfl⟩
  obtain ⟨f, hf⟩ : ∃ f, found l t = f := ⟨_, rfl⟩
  rw [hpp, hf] at HS HL
  rw [hpp, hf, hnn] at HFL
  rw [hnn] at HS hlc HR ⊢
  have HN := hideIt hnn
  clear hpp hf hnn hbW hbox hn
  cases f with
  | false =>
    have HL2 : Hid (lookE l t = none) := hideIt (by rw [HL.out]; rfl)
    go_enter Try.func18, Try.ntmps18
    go_wp2_with (first | (go_at_call 28; refine HS.out.mono ?_; rintro e w1 ⟨rfl, hb1⟩; obtain ⟨k0, k1, k2, f0, f1, f2⟩ := HK.out w1 hb1))
    (try simp only [Exit.inBlock, Exit.then])
    refine bodyPost_ret (v := .tuple #[enA noEn, .bool false]) ?_ rfl ⟨by rw [HL2.out]; rfl, ?_⟩
    · rw [results_cell_tmp rfl]
      go_simp
      rfl
    · exact put3 (below2 HBW.out hb1) _ _ _
  | true =>
    have hpn := HFL.out rfl
    have p1 : (p : Int) < (n : Int) := by omega
    obtain ⟨q, hq⟩ : ∃ q, p + (true).toNat = q := ⟨_, rfl⟩
    rw [hq] at HS
    have hq' : p + 1 = q := hq
    have p2 : ¬ (p : Int) = (q : Int) := by omega
    have p3 : ((p : Int) == (q : Int)) = false := by simpa using p2
    have p4 : ¬ p = q := by omega
    clear hq hq'
    obtain ⟨a', c', e', _, _, hrow⟩ := HR.out
    simp only [Value.slice.injEq] at e'
    obtain ⟨rfl, -, rfl⟩ := e'
    obtain ⟨b, o, rfl, hcells⟩ := hrow (by rw [HN.out]; omega)
    obtain ⟨x, hxi⟩ : ∃ x, l[p]? = some x := ⟨l[p]'(by rw [HN.out]; omega), by simp⟩
    have HCE : Hid (∀ w1, Below W.heap.size W w1 → w1.cell? ⟨b, o + p * 3, none⟩ = some (.string x.nm) ∧ w1.cell? ⟨b, o + p * 3 + 1, none⟩ = some (.int .i64 x.md) ∧ w1.cell? ⟨b, o + p * 3 + 2, none⟩ = some (.string x.ids)) := hideIt (fun w1 h1 => (hcells.below h1).2 p x hxi)
    have HL2 : Hid (lookE l t = some x) := hideIt (by rw [HL.out, hxi]; rfl)
    clear hcells hxi hrow
    go_enter Try.func18, Try.ntmps18
    go_wp2_with (first | (go_at_call 28; refine HS.out.mono ?_; rintro e w1 ⟨rfl, hb1⟩; obtain ⟨k0, k1, k2, f0, f1, f2⟩ := HK.out w1 hb1; obtain ⟨x0, x1, x2⟩ := HCE.out w1 hb1))
    (try simp only [Exit.inBlock, Exit.then])
    refine bodyPost_ret (v := .tuple #[enA x, .bool true]) ?_ rfl ⟨by rw [HL2.out]; rfl, ?_⟩
    · rw [results_cell_tmp rfl]
      go_simp
      rfl
    · exact put3 (below2 HBW.out hb1) _ _ _
end Go.Proofs.Ytfpnepjdcgghgaa
