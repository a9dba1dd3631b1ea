/- Trees: the tree of bytes, walked. -/
import Derived.Test.YtmjffngpaoaflaaGreatDoorTd
namespace Go.Proofs.YtmjffngpaoaflaaGreatDoor
open Go.RowKit Go.Shelf
theorem esV_len : ∀ l : List En, (esV l).length = l.length * 3
  | [] => rfl
  | x :: t => by
    have := esV_len t
    unfold esV at this ⊢
    simp [enV] at this ⊢
    omega
theorem esV_at : ∀ (l : List En) (j : Nat) (x : En), l[j]? = some x → (esV l)[j * 3]? = some (.string x.nm) ∧ (esV l)[j * 3 + 1]? = some (.int .i64 x.md) ∧ (esV l)[j * 3 + 2]? = some (.string x.ids)
  | [], j, x, h => by simp at h
  | y :: t, 0, x, h => by
    simp at h
    subst h
    exact ⟨rfl, rfl, rfl⟩
  | y :: t, j + 1, x, h => by
    have h' : t[j]? = some x := by simpa using h
    obtain ⟨a, b, c⟩ := esV_at t j x h'
    have e : esV (y :: t) = .string y.nm :: .int .i64 y.md :: .string y.ids :: esV t := rfl
    rw [e, show (j + 1) * 3 = j * 3 + 1 + 1 + 1 by omega]
    exact ⟨by simpa using a, by simpa using b, by simpa using c⟩
theorem esV_snoc (l : List En) (x : En) : esV (l ++ [x]) = esV l ++ [.string x.nm, .int .i64 x.md, .string x.ids] := by simp [esV, enV]
theorem block_lt {w : World} {g : Nat} {o : Obj} (h : w.heap[g]? = some o) : g < w.heap.size := by
  rcases Nat.lt_or_ge g w.heap.size with h' | h'
  · exact h'
  · simp [Array.getElem?_eq_none h'] at h
theorem ERow.of_row {w : World} {B : Nat} {t : TypeId} {v : Value} {l : List En} (h : w.ownsRow B t 3 v l.length (esV l)) : ERow w v l := by
  rcases h.2 with ⟨e, h0⟩ | ⟨g, cap, cur, e, h1, hg, h2, h3, r⟩
  · exact ⟨none, 0, by rw [e, h0], by omega, ⟨by unfold maxLen; omega, fun _ => rfl⟩, fun hp => by omega⟩
  · subst e
    refine ⟨some ⟨g, 0, none⟩, cap, rfl, h2, ⟨h3, fun h => by cases h⟩, fun _ => ⟨g, 0, rfl, block_lt hg, fun j x hj => ?_⟩⟩
    have hl : j < l.length := (List.getElem?_eq_some_iff.1 hj).1
    obtain ⟨a, b, c⟩ := esV_at l j x hj
    refine ⟨?_, ?_, ?_⟩
    · rw [Nat.zero_add, h.cellAt (j * 3) (by omega), a]
    · rw [Nat.zero_add, h.cellAt (j * 3 + 1) (by omega), b]
    · rw [Nat.zero_add, h.cellAt (j * 3 + 2) (by omega), c]
theorem own_below {w w' : World} {B n s : Nat} {t : TypeId} {v : Value} {xs : List Value} (h : w.ownsRow B t s v n xs) (hb : Below w.heap.size w w') : w'.ownsRow B t s v n xs := by
  refine ⟨h.1, ?_⟩
  rcases h.2 with h0 | ⟨g, cap, cur, e, h1, hg, r⟩
  · exact .inl h0
  · exact .inr ⟨g, cap, cur, e, h1, (hb.block g (block_lt hg)).trans hg, r⟩
theorem infoE : (Tryz.prog.info? 95).map (fun i => (i.zero, i.size, i.bytes)) = some (some (.agg #[.string ⟨#[]⟩, .int .i64 0, .string ⟨#[]⟩]), 3, 40) := by kernel_rfl
theorem three_new {w : World} (x : En) (t : TypeId) (j : Nat) (u : Value) (h : [Value.string x.nm, .int .i64 x.md, .string x.ids][j]? = some u) : (w.alloc (.cells #[.string x.nm, .int .i64 x.md, .string x.ids] t)).cell? ((⟨w.heap.size, 0, none⟩ : Addr).add j) = some u := by
  have hrow : (w.alloc (.cells #[.string x.nm, .int .i64 x.md, .string x.ids] t)).heap[w.heap.size]? = some (.cells #[.string x.nm, .int .i64 x.md, .string x.ids] t (0, 0)) := alloc_at rfl
  match j, h with
  | 0, h => exact cellAt hrow (by simpa using h)
  | 1, h => exact cellAt hrow (by simpa using h)
  | 2, h => exact cellAt hrow (by simpa using h)
  | j + 3, h => simp at h
theorem row_ge {B n : Nat} {t : TypeId} {v : Value} {xs : List Value} {w : World} (h : w.ownsRow B t 3 v n xs) : ∀ k, v.ownBlock = some k → B ≤ k := by
  intro k hk
  rcases h.2 with ⟨e, _⟩ | ⟨g, cap, cur, e, h1, _⟩
  · subst e; simp [Value.ownBlock] at hk
  · subst e; simp [Value.ownBlock] at hk; omega
def szOf : Value → Nat
  | .string s => s.size
  | _ => 0
theorem rd_err (s : List UInt8) (e : Int) (h : rd s = .err e) : e = 4 ∨ e = 60 := by
  unfold rd at h
  repeat' split at h
  all_goals first | (cases h; done) | (simp only [Rd.err.injEq] at h; omega)
def DecTo (w : World) (L : List UInt8) (e : Ending) (w' : World) : Prop := ∃ v, e = .returned (.tuple #[v, .int .i64 (dec L).1]) ∧ ERow w' v (dec L).2 ∧ Below w.heap.size w w'
theorem ERow.nil (w : World) : ERow w (.slice none 0 0) [] := ⟨none, 0, rfl, Nat.le_refl _, ⟨Nat.zero_le _, fun _ => rfl⟩, fun h => by simp at h⟩
theorem decF_ok1 (f : Nat) (acc : List En) (R : List UInt8) (x : En) (r : List UInt8) (hf : R.length ≤ f) (h : rd R = .ok x r) : ∃ g, r.length ≤ g ∧ decF f acc R = if acc.length = 256 then (3, []) else decF g (acc ++ [x]) r := by
  obtain ⟨e1, e2, -⟩ := rd_ok R x r h
  cases f with
  | zero => omega
  | succ f =>
    refine ⟨f, by omega, ?_⟩
    rw [decF, if_neg (by rw [e1]; exact enc1_ne _ _), h]
theorem decF_err (f : Nat) (acc : List En) (R : List UInt8) (e : Int) (hf : R.length ≤ f) (hn : R ≠ []) (h : rd R = .err e) : decF f acc R = (e, []) := by
  cases f with
  | zero => exact absurd (List.length_eq_zero_iff.1 (by omega)) hn
  | succ f => rw [decF, if_neg hn, h]
theorem decF_end (f : Nat) (acc : List En) : decF f acc [] = fin acc := by cases f <;> simp [decF]
set_option maxHeartbeats 1600000 in
set_option maxRecDepth 100000 in
theorem decode_any (L : List UInt8) (hL : L.length ≤ 1000000) (w : World) (hm : MaxAt w) :
    Calls Tryz.prog 61 #[.string (bs L)] w fun e w' => DecTo w L e w' := by
  obtain ⟨i0, hi0, hz0, hz1, hz2⟩ := info_parts infoE
  have HT : Hid (∀ e w', DecTo w L e w' ↔ ∃ v, e = .returned (.tuple #[v, .int .i64 (dec L).1]) ∧ ERow w' v (dec L).2 ∧ Below w.heap.size w w') := hideIt (fun _ _ => Iff.rfl)
  have HM := hideIt hm
  have HRE := hideIt (readEntry_any)
  have HCK := hideIt (check_any)
  clear hm
  obtain ⟨S0, hS0⟩ : ∃ S0, bs L = S0 := ⟨_, rfl⟩
  rw [hS0]
  go_enter Tryz.func61, Tryz.ntmps61
  go_wp2
  go_loopw [0, 4] (fun t u wr => ∃ (acc : List En) (R : List UInt8) (f : Nat), t = .string (bs R) ∧ R.length ≤ f ∧ R.length ≤ 1000000 ∧ decF f acc R = dec L ∧ acc.length ≤ 256 ∧ wr.ownsRow w.heap.size 95 3 u acc.length (esV acc) ∧ Below w.heap.size w wr) (fun t _ _ => szOf t)
  case atStart => exact ⟨[], L, L.length, by rw [hS0], Nat.le_refl _, hL, rfl, by simp, ⟨rfl, .inl ⟨rfl, rfl⟩⟩, Below.refl _ _⟩
  case round =>
    obtain ⟨acc, R, f, rfl, hf, hR, hdec, hacc, hrow, hb⟩ := hrel
    have HO := hideIt hrow
    have HB := hideIt hb
    have HD := hideIt hdec
    have hws : w.heap.size ≤ wr.heap.size := hb.size
    clear hrow hb hdec hS0
    by_cases hn : R = []
    · subst hn
      have q1 : ((bs []).toList == []) = true := by rw [ByteArray.toList_eq]; rfl
      have q2 : (bs []).toList.isEmpty = true := by rw [ByteArray.toList_eq]; rfl
      have HC := hideIt (HCK.out _ acc wr (ERow.of_row HO.out))
      have HD2 : Hid (dec L = fin acc) := hideIt (by rw [← HD.out, decF_end])
      obtain ⟨z, hz⟩ : ∃ z, chk acc = z := ⟨_, rfl⟩
      rw [hz] at HC
      have HZ := hideIt hz
      clear hz HD
      obtain ⟨av, cv, hv, _⟩ := ERow.of_row HO.out
      subst hv
      by_cases h0 : z = 0
      · subst h0
        go_wp2_with (first | (go_at_call 84; refine HC.out.mono ?_; rintro e w1 ⟨rfl, hb1⟩))
        go_ret2
        refine (HT.out _ _).2 ⟨.slice av acc.length cv, ?_, ?_, below2 HB.out hb1⟩
        · rw [HD2.out, fin, HZ.out]; rfl
        · rw [HD2.out, fin, if_pos HZ.out]
          exact (ERow.of_row HO.out).below hb1
      · have z1 : (z == 0) = false := by simpa using h0
        go_wp2_with (first | (go_at_call 84; refine HC.out.mono ?_; rintro e w1 ⟨rfl, hb1⟩))
        go_ret2
        refine (HT.out _ _).2 ⟨.slice none 0 0, ?_, ?_, below2 HB.out hb1⟩
        · rw [HD2.out, fin, HZ.out]; rfl
        · rw [HD2.out, fin, if_neg (by rw [HZ.out]; exact h0)]
          exact ERow.nil _
    · have q1 : ((bs R).toList == []) = false := by rw [ByteArray.toList_eq, bs_list]; simpa using hn
      have q2 : (bs R).toList.isEmpty = false := by rw [ByteArray.toList_eq, bs_list]; simpa using hn
      obtain ⟨S1, hS1⟩ : ∃ S1, bs R = S1 := ⟨_, rfl⟩
      rw [hS1] at q1 q2 ⊢
      have HR1 := hideIt (HRE.out R hR wr (HM.out.below HB.out))
      rw [hS1] at HR1
      cases hr : rd R with
      | err e =>
        have HR2 : Hid (Calls Tryz.prog 83 #[.string S1] wr fun e' w' => e' = .returned (.tuple #[.agg #[.string ⟨#[]⟩, .int .i64 0, .string ⟨#[]⟩], .string ⟨#[]⟩, .int .i64 e]) ∧ Below wr.heap.size wr w') := hideIt (by have := HR1.out; rw [hr] at this; exact this)
        have HD2 : Hid (dec L = (e, [])) := hideIt (by rw [← HD.out, decF_err f acc R e hf hn hr])
        have z1 : (e == 0) = false := by rcases rd_err R e hr with h | h <;> simp [h]
        clear HR1 HD hr hn hf
        go_wp2_with (first | (go_at_call 83; refine HR2.out.mono ?_; rintro e' w1 ⟨rfl, hb1⟩))
        go_ret2
        refine (HT.out _ _).2 ⟨.slice none 0 0, ?_, ?_, below2 HB.out (below2 hb1 ((Below.refl _ _).alloc (Nat.le_refl _) _))⟩
        · rw [HD2.out]; rfl
        · rw [HD2.out]
          exact ERow.nil _
      | ok x r =>
        have HR2 : Hid (Calls Tryz.prog 83 #[.string S1] wr fun e' w' => e' = .returned (.tuple #[.agg #[.string x.nm, .int .i64 x.md, .string x.ids], .string (bs r), .int .i64 0]) ∧ Below wr.heap.size wr w') := hideIt (by have := HR1.out; rw [hr] at this; exact this)
        obtain ⟨g, hg, hdg⟩ := decF_ok1 f acc R x r hf hr
        have HX := hideIt (rd_ok R x r hr)
        have HDG := hideIt hdg
        clear HR1 hr hn hf hdg
        obtain ⟨n, hnn⟩ : ∃ n, acc.length = n := ⟨_, rfl⟩
        obtain ⟨av, cv, hv, hle, hcm, _⟩ := ERow.of_row HO.out
        subst hv
        rw [hnn] at hacc hle HO ⊢
        have HN := hideIt hnn
        clear hnn
        by_cases h256 : n = 256
        · subst h256
          go_wp2_with (first | (go_at_call 83; refine HR2.out.mono ?_; rintro e' w1 ⟨rfl, hb1⟩))
          go_ret2
          refine (HT.out _ _).2 ⟨.slice none 0 0, ?_, ?_, below2 HB.out (below2 hb1 ((Below.refl _ _).alloc (Nat.le_refl _) _))⟩
          · rw [← HD.out, HDG.out, if_pos HN.out]; rfl
          · rw [← HD.out, HDG.out, if_pos HN.out]
            exact ERow.nil _
        · have m1 : ¬ (n : Int) = 256 := by omega
          have m2 : ((n : Int) == 256) = false := by simpa using m1
          have HTN : Hid (∀ (w1 : World) (j : Nat) (u : Value), [Value.string x.nm, .int .i64 x.md, .string x.ids][j]? = some u → ((w1.alloc (.cells #[.string x.nm, .int .i64 x.md, .string x.ids] 95)).alloc (.cells #[.string x.nm, .int .i64 x.md, .string x.ids] 95)).cell? ((⟨w1.heap.size + 1, 0, none⟩ : Addr).add j) = some u) := hideIt (fun w1 j u h => by
            have := three_new (w := w1.alloc (.cells #[.string x.nm, .int .i64 x.md, .string x.ids] 95)) x 95 j u h
            simpa using this)
          go_wp2_with (first | (go_at_call 83; refine HR2.out.mono ?_; rintro e' w1 ⟨rfl, hb1⟩; have hw1 : wr.heap.size ≤ w1.heap.size := hb1.size; have HO1 := hideIt (own_below HO.out hb1); have HB1 := hideIt (below2 HB.out hb1)) | (at_builtin; refine wpList_append_own _ rfl _ _ 92 rfl w.heap.size 95 i0 (.agg #[.string ⟨#[]⟩, .int .i64 0, .string ⟨#[]⟩]) 3 40 Tryz.underlying92 hi0 hz0 hz1 hz2 rfl (by decide) _ _ _ rfl ((HO1.out.alloc _).alloc _) ⟨w1.heap.size + 1, 0, none⟩ 1 1 [.string x.nm, .int .i64 x.md, .string x.ids] rfl rfl (HTN.out w1) (fun u hu => by simp at hu; rcases hu with rfl | rfl | rfl <;> rfl) (by unfold maxLen; omega) (by omega) (by simp; omega) ?_; intro v3 w3 hown3 hg3 hnil3))
          go_roundw
          case rel =>
            refine ⟨acc ++ [x], r, g, rfl, hg, by have := HX.out.2.1; omega, by rw [← HD.out, HDG.out, if_neg (by rw [HN.out]; exact h256)], by simp [HN.out]; omega, ?_, ?_⟩
            · rw [esV_snoc]
              simpa [HN.out] using hown3
            · exact Below.grown ((HB1.out.alloc (by omega) _).alloc (by simp; omega) _) hg3 (by simp; omega) (row_ge HO.out)
          case measure =>
            have := HX.out.2.1
            rw [← hS1]
            simp [szOf, bs_size]
            omega
end Go.Proofs.YtmjffngpaoaflaaGreatDoor
