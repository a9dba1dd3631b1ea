/- A path's names, as the document's copy tells them, walked. -/
import Derived.Test.YtgbmfhbodfmpbaaDoorLsq
import Derived.Test.YtgbmfhbodfmpbaaDoorLbs
namespace Go.Proofs.YtgbmfhbodfmpbaaDoor
open Go.RowKit
def segL (l : List UInt8) (a k : Nat) : List UInt8 := (l.drop a).take (k - a)
theorem seg_next (l : List UInt8) (a k : Nat) (h : a ≤ k) (hk : k < l.length) : segL l a (k + 1) = segL l a k ++ [l[k]] := by
  unfold segL
  rw [show k + 1 - a = (k - a) + 1 by omega, List.take_add_one, List.getElem?_drop, show a + (k - a) = k by omega, List.getElem?_eq_getElem hk]
  rfl
theorem seg_self (l : List UInt8) (k : Nat) : segL l k k = [] := by simp [segL]
theorem extract_list (s : ByteArray) (a k : Nat) : (s.extract a k).data.toList = segL s.data.toList a k := by
  rw [ByteArray.data_extract]; simp [segL, List.extract_eq_take_drop]
/-- Where the letter by letter walk stands. -/
structure SegRel (p : ByteArray) (n a k : Nat) (O : List ByteArray) : Prop where
  le : k ≤ n + 1
  len : O.length ≤ k
  go : k ≤ n → a ≤ k ∧ O.map (·.data.toList) ++ segs (segL p.data.toList a k) (p.data.toList.drop k) = segs [] p.data.toList
  fin : k = n + 1 → O = pieces p
theorem SegRel.start (p : ByteArray) (n : Nat) : SegRel p n 0 0 [] := ⟨by omega, by simp, fun _ => ⟨Nat.le_refl _, by simp [segL]⟩, fun h => by omega⟩
theorem SegRel.byte {p : ByteArray} {n a k : Nat} {O : List ByteArray} (h : SegRel p n a k O) (hl : p.size = n) (hk : k < n) (hc : ¬ p.data.toList[k]? = some 47) : SegRel p n a (k + 1) O := by
  obtain ⟨ha, e⟩ := h.go (by omega)
  have hkl : k < p.data.toList.length := by rw [str_len]; omega
  have h47 : ¬ p.data.toList[k] = 47 := fun hh => hc (by rw [List.getElem?_eq_getElem hkl, hh])
  refine ⟨by omega, by have := h.len; omega, fun _ => ⟨by omega, ?_⟩, fun hh => by omega⟩
  rw [← e, seg_next _ a k ha hkl, List.drop_eq_getElem_cons hkl, segs, if_neg h47]
theorem SegRel.slash {p : ByteArray} {n a k : Nat} {O : List ByteArray} (h : SegRel p n a k O) (hl : p.size = n) (hk : k < n) (hc : p.data.toList[k]? = some 47) : SegRel p n (k + 1) (k + 1) (O ++ [p.extract a k]) := by
  obtain ⟨ha, e⟩ := h.go (by omega)
  have hkl : k < p.data.toList.length := by rw [str_len]; omega
  have h47 : p.data.toList[k] = 47 := by rw [List.getElem?_eq_getElem hkl] at hc; exact Option.some.inj hc
  refine ⟨by omega, by have := h.len; simp; omega, fun _ => ⟨Nat.le_refl _, ?_⟩, fun hh => by omega⟩
  rw [← e, seg_self, List.drop_eq_getElem_cons hkl, segs, if_pos h47, List.map_append]
  simp
  rfl
theorem SegRel.last {p : ByteArray} {n a : Nat} {O : List ByteArray} (h : SegRel p n a n O) (hl : p.size = n) : SegRel p n (n + 1) (n + 1) (O ++ [p.extract a n]) := by
  obtain ⟨ha, e⟩ := h.go (by omega)
  refine ⟨by omega, by have := h.len; simp; omega, fun hh => by omega, fun _ => ?_⟩
  apply lists_inj
  rw [pieces_lists, ← e, List.drop_of_length_le (by rw [str_len]; omega), segs, List.map_append]
  simp
  rfl
theorem cellAt {w : World} {g i : Nat} {cs : Array Value} {t : TypeId} {fr : Nat × Nat} {v : Value} (h : w.heap[g]? = some (.cells cs t fr)) (hv : cs[i]? = some v) : w.cell? ⟨g, i, none⟩ = some v := by
  rw [cell_of_row _ _ i _ _ _ h, hv]
theorem infoS : (Tryd.prog.info? 9).map (fun i => (i.zero, i.size, i.bytes)) = some (some (.string ⟨#[]⟩), 1, 16) := by kernel_rfl
def strV (l : List ByteArray) : List Value := l.map Value.string
theorem one_str {w : World} (s : ByteArray) (t : TypeId) (j : Nat) (u : Value) (h : [Value.string s][j]? = some u) : (w.alloc (.cells #[.string s] t)).cell? ((⟨w.heap.size, 0, none⟩ : Addr).add j) = some u := by
  have hrow : (w.alloc (.cells #[.string s] t)).heap[w.heap.size]? = some (.cells #[.string s] t (0, 0)) := alloc_at rfl
  match j, h with
  | 0, h => exact cellAt hrow (by simpa using h)
  | j + 1, h => simp at h
theorem strow_ge {B n : Nat} {v : Value} {xs : List Value} {w : World} (h : w.ownsRow B 9 1 v n xs) : ∀ k, v.ownBlock = some k → B ≤ k := by
  intro k hk
  rcases h.2 with ⟨rfl, rfl⟩ | ⟨g, cap, cur, rfl, hb, _, _, _, _, _⟩
  · simp [Value.ownBlock] at hk
  · simp [Value.ownBlock] at hk; omega
set_option maxHeartbeats 1600000 in
set_option maxRecDepth 100000 in
theorem refsplit_any (p : ByteArray) (w : World) (hs : p.size ≤ 1000000) :
    Calls Tryd.prog 7 #[.string p] w fun e w' => SplitTo w p e w' := by
  obtain ⟨i0, hi0, hz0, hz1, hz2⟩ := info_parts infoS
  obtain ⟨n, hn⟩ : ∃ n, p.size = n := ⟨_, rfl⟩
  have hni : (p.size : Int) = (n : Int) := by rw [hn]
  have hn6 : n ≤ 1000000 := by omega
  have HE : Hid (splE p = if 64 < (pieces p).length then 3 else if (pieces p).all Lb.nameB = true then 0 else 50) := rfl
  have HT : Hid (∀ e w', SplitTo w p e w' ↔ ∃ v, e = .returned (.tuple #[v, .int .i64 (splE p)]) ∧ Below w.heap.size w w' ∧ (¬ splE p = 0 → v = .slice none 0 0) ∧ (splE p = 0 → StrRow w.heap.size w' v (pieces p))) := fun _ _ => Iff.rfl
  have hps := hideIt (pieces_size p)
  have hpf := hideIt (pieces_len p)
  go_enter Tryd.func7, Tryd.ntmps7
  go_wp2
  go_loopw [4, 5, 6] (fun u v t wr => ∃ (a k : Nat) (O : List ByteArray), v = .int .i64 a ∧ t = .int .i64 k ∧ SegRel p n a k O ∧ wr.ownsRow w.heap.size 9 1 u O.length (strV O) ∧ Below w.heap.size w wr) (fun _ _ t _ => n + 1 - (intOf t).toNat)
  case atStart => exact ⟨0, 0, [], rfl, rfl, SegRel.start p n, ⟨rfl, .inr ⟨w.heap.size, 0, #[], rfl, Nat.le_refl _, alloc_at rfl, by simp, by simp, rfl, rfl⟩⟩, (Below.refl _ _).alloc (Nat.le_refl _) _⟩
  case round =>
    obtain ⟨a, k, O, rfl, rfl, hr, hO, hb⟩ := hrel
    have HR := hideIt hr
    have HO := hideIt hO
    have HB := hideIt hb
    have hsz := hb.size
    have hle := hr.le
    have hlen := hr.len
    by_cases hkn : k ≤ n
    · have c1 : decide ((k : Int) ≤ (n : Int)) = true := by simp; omega
      have c1' : (k : Int) ≤ (n : Int) := by omega
      obtain ⟨hak, _⟩ := hr.go hkn
      have b0 : (0 : Int) ≤ (a : Int) := by omega
      have b1 : (a : Int) ≤ (k : Int) := by omega
      have b2 : (k : Int) ≤ (p.size : Int) := by omega
      have b3 : (0 : Int) ≤ (k : Int) := by omega
      have b4 : (k : Int) ≤ 1000000 := by omega
      clear hr hO hb
      by_cases hlt : k < n
      · have d1 : ((k : Int) == (n : Int)) = false := by simp; omega
        have d2 : (k : Int) < (p.size : Int) := by omega
        have hks : k < p.size := by omega
        have hc := at_list p k hks
        obtain ⟨c, hcc⟩ : ∃ c, p[k] = c := ⟨_, rfl⟩
        rw [hcc] at hc
        by_cases h47 : c = 47
        · subst h47
          have HS := hideIt (HR.out.slash hn hlt hc)
          have m1 : ((47 : UInt8).toNat : Int) = 47 := rfl
          obtain ⟨x, hx⟩ : ∃ x, p.extract a k = x := ⟨_, rfl⟩
          rw [hx] at HS
          clear hc
          go_wp2_with (first | (at_builtin; refine wpList_append_own _ rfl (.tmp 25) (.tmp 30) 22 rfl w.heap.size 9 i0 (.string ⟨#[]⟩) 1 16 Tryd.underlying22 hi0 hz0 hz1 hz2 rfl (by decide) _ _ _ rfl (HO.out.alloc _) ⟨wr.heap.size, 0, none⟩ 1 1 [.string x] rfl rfl (one_str x _) (fun u hu => by simp at hu; rcases hu with rfl; rfl) (by unfold maxLen; omega) (by omega) (by simp; omega) ?_; intro v3 w3 hown3 hg3 hnil3))
          go_roundw
          case rel =>
            refine ⟨k + 1, k + 1, O ++ [x], by go_num, by go_num, HS.out, ?_, ?_⟩
            · have e : strV (O ++ [x]) = strV O ++ [.string x] := by simp [strV]
              rw [e]
              simpa using hown3
            · exact (HB.out.alloc (by omega) _).grown hg3 (by simp; omega) (strow_ge HO.out)
          case measure => simp [intOf]; omega
        · have HS := hideIt (HR.out.byte hn hlt (by rw [hc]; intro e; exact h47 (Option.some.inj e)))
          have n47 : ¬ ((c.toNat : Int) = 47) := by intro h; apply h47; apply UInt8.toNat_inj.1; simpa using (by omega : c.toNat = 47)
          have n48 : ((c.toNat : Int) == 47) = false := by simp; omega
          clear hc
          go_wp2
          go_roundw
          case rel => exact ⟨a, k + 1, O, by go_num, by go_num, HS.out, HO.out, HB.out⟩
          case measure => simp [intOf]; omega
      · obtain rfl : k = n := by omega
        have d1 : ((k : Int) == (k : Int)) = true := by simp
        have HS := hideIt (HR.out.last hn)
        obtain ⟨x, hx⟩ : ∃ x, p.extract a k = x := ⟨_, rfl⟩
        rw [hx] at HS
        go_wp2_with (first | (at_builtin; refine wpList_append_own _ rfl (.tmp 25) (.tmp 30) 22 rfl w.heap.size 9 i0 (.string ⟨#[]⟩) 1 16 Tryd.underlying22 hi0 hz0 hz1 hz2 rfl (by decide) _ _ _ rfl (HO.out.alloc _) ⟨wr.heap.size, 0, none⟩ 1 1 [.string x] rfl rfl (one_str x _) (fun u hu => by simp at hu; rcases hu with rfl; rfl) (by unfold maxLen; omega) (by omega) (by simp; omega) ?_; intro v3 w3 hown3 hg3 hnil3))
        go_roundw
        case rel =>
          refine ⟨k + 1, k + 1, O ++ [x], by go_num, by go_num, HS.out, ?_, ?_⟩
          · have e : strV (O ++ [x]) = strV O ++ [.string x] := by simp [strV]
            rw [e]
            simpa using hown3
          · exact (HB.out.alloc (by omega) _).grown hg3 (by simp; omega) (strow_ge HO.out)
        case measure => simp [intOf]
    · have c1 : decide ((k : Int) ≤ (n : Int)) = false := by simp; omega
      have c1' : ¬ (k : Int) ≤ (n : Int) := by omega
      obtain rfl := hr.fin (by omega)
      clear hr hO hb HR
      obtain ⟨q, hq⟩ : ∃ q, (pieces p).length = q := ⟨_, rfl⟩
      obtain ⟨l, hll⟩ : ∃ l, pieces p = l := ⟨_, rfl⟩
      rw [hll] at hq HO HT HE hps hlen hpf
      rw [hq] at HO HE hlen hpf
      clear hll
      by_cases h64 : 64 < q
      · have c2 : decide ((64 : Int) < (q : Int)) = true := by simp; omega
        have HE' : Hid (splE p = 3) := hideIt (by rw [HE.out, if_pos (by omega)])
        rcases HO.out.2 with ⟨rfl, h0⟩ | ⟨g, cap, cur, rfl, _, _, _, _, _, _⟩
        · omega
        · go_wp2
          go_ret2
          exact (HT.out _ _).2 ⟨_, by rw [HE'.out]; rfl, HB.out, fun _ => rfl, fun h => by rw [HE'.out] at h; omega⟩
      · have c2 : decide ((64 : Int) < (q : Int)) = false := by simp; omega
        have HE' : Hid (splE p = if l.all Lb.nameB = true then 0 else 50) := hideIt (by rw [HE.out, if_neg (by omega)])
        have hq1 : 1 ≤ q := by have := hpf.out; omega
        rcases HO.out.2 with ⟨rfl, h0⟩ | ⟨g, cap, cur, rfl, r1, r2, r3, r4, r5, r6⟩
        · omega
        · have HG : Hid (∀ j x, l[j]? = some x → wr.cell? ⟨g, j, none⟩ = some (.string x)) := hideIt (fun j x hj => by
            have hjl : j < l.length := (List.getElem?_eq_some_iff.1 hj).1
            rw [HO.out.cellAt j (by omega)]
            simp [strV, hj])
          have hgs : g < wr.heap.size := (Array.getElem?_eq_some_iff.1 r2).1
          clear r2 r5 r6
          have HC : Hid (cap ≤ maxLen) := hideIt r4
          clear r4
          go_wp2
          go_loopw [7] (fun t w2 => ∃ i : Nat, w2 = wr ∧ t = .int .i64 i ∧ i ≤ q ∧ (l.take i).all Lb.nameB = true) (fun t _ => q - (intOf t).toNat)
          case atStart => exact ⟨0, rfl, rfl, by omega, by simp⟩
          case round =>
            obtain ⟨i, rfl, rfl, hi, hall⟩ := hrel
            have HL := hideIt hall
            by_cases hlt : i < q
            · have d1 : decide ((i : Int) < (q : Int)) = true := by simp; omega
              have hil : i < l.length := by omega
              obtain ⟨s, hse⟩ : ∃ s, l[i] = s := ⟨_, rfl⟩
              have hcell := HG.out i s (by rw [List.getElem?_eq_getElem hil, hse])
              have b0 : (0 : Int) ≤ (i : Int) := by omega
              have b1 : (i : Int) < (q : Int) := by omega
              have hsz1 : s.size ≤ p.size := hps.out s (by rw [← hse]; exact List.getElem_mem hil)
              have HN := hideIt (fun w => refname_any s w (by unfold maxLen; omega))
              have HX := hideIt (take_all_next Lb.nameB l i hil)
              have HF := hideIt (all_false Lb.nameB l i hil)
              rw [hse] at HX HF
              generalize Lb.nameB s = b at *
              clear hall hse
              cases b
              · go_wp2_with (first | (go_at_call 14; refine (HN.out _).mono ?_; rintro e wx ⟨rfl, hwx⟩; obtain rfl := hwx.symm))
                go_ret2
                have e50 : splE p = 50 := by rw [HE'.out, HF.out (by first | rfl | trivial)]; rfl
                exact (HT.out _ _).2 ⟨_, by rw [e50]; rfl, HB.out, fun _ => rfl, fun h => by rw [e50] at h; omega⟩
              · go_wp2_with (first | (go_at_call 14; refine (HN.out _).mono ?_; rintro e wx ⟨rfl, hwx⟩; obtain rfl := hwx.symm))
                go_roundw
                case rel => exact ⟨i + 1, by first | rfl | trivial, by go_num, by omega, by rw [HX.out, HL.out]; rfl⟩
                case measure => simp [intOf]; omega
            · have d1 : decide ((i : Int) < (q : Int)) = false := by simp; omega
              have HA : Hid (l.all Lb.nameB = true) := hideIt (by rw [List.take_of_length_le (by omega)] at hall; exact hall)
              clear hall
              go_wp2
              go_ret2
              have e0 : splE p = 0 := by rw [HE'.out, HA.out]; rfl
              exact (HT.out _ _).2 ⟨_, by rw [e0]; rfl, HB.out, fun h => absurd e0 h, fun _ => ⟨g, cap, by rw [hq]; rfl, by omega, r1, hgs, HG.out⟩⟩
end Go.Proofs.YtgbmfhbodfmpbaaDoor
