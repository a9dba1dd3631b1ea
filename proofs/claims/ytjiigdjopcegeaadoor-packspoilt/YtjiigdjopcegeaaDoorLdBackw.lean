/- How far back the same four bytes stood, place by place, walked. -/
import Derived.Test.YtjiigdjopcegeaaDoorLdPlacew
namespace Go.Proofs.YtjiigdjopcegeaaDoor.Ld
open Cb
open Go.RowKit
theorem data_mid (s : ByteArray) (i j : Nat) : (s.extract i j).data.toList = (s.data.toList.drop i).take (j - i) := by
  rw [ByteArray.data_extract, Array.toList_extract, List.extract_eq_take_drop]
theorem data_rest (s : ByteArray) (k : Nat) : (s.extract k s.size).data.toList = s.data.toList.drop k := by
  rw [data_mid, List.take_of_length_le (by rw [List.length_drop, str_len]; omega)]
theorem four_of (s : ByteArray) (x : Nat) : (s.extract x (x + 4)).data.toList = Lz.four s.data.toList x := by
  rw [Lz.four, data_mid, Nat.add_sub_cancel_left]
set_option maxHeartbeats 400000 in
theorem four_any (s : ByteArray) (x : Nat) (w : World) (hx : x + 4 ≤ s.size) (hs : s.size ≤ 1048576) :
    Calls Tryd.prog 47 #[.string s, .int .i32 (x : Int)] w fun e w' => e = .returned (.string (bs (Lz.four s.data.toList x))) ∧ w' = w := by
  have e : bs (Lz.four s.data.toList x) = s.extract x (x + 4) := by rw [← four_of, bs_data]
  rw [e]
  obtain ⟨y, hy⟩ : ∃ y, x + 4 = y := ⟨_, rfl⟩
  have y1 : (x : Int) + 4 = (y : Int) := by omega
  have y2 : (y : Int) ≤ (s.size : Int) := by omega
  have y3 : (x : Int) ≤ (y : Int) := by omega
  have y4 : (y : Int) ≤ 1048576 := by omega
  rw [hy]
  clear hy e
  go_enter Tryd.func47, Tryd.ntmps47
  go_wp2
  go_ret
  exact ⟨rfl, rfl⟩
namespace Lz
structure BK (s : List UInt8) (i : Nat) (bf : Nat → Nat) : Prop where
  told : ∀ p y : Nat, 1 ≤ p → p < i → (places s)[p]? = some y → bf y = back s y
  rest : ∀ y : Nat, (∀ p : Nat, 1 ≤ p → p < i → (places s)[p]? ≠ some y) → bf y = 0
theorem BK.same {s : List UInt8} {i y : Nat} {bf : Nat → Nat} (h : BK s i bf) (hy : (places s)[i]? = some y) (hb : back s y = 0) : BK s (i + 1) bf := by
  refine ⟨fun p z h1 h2 hz => ?_, fun z hz => h.rest z (fun p h1 h2 => hz p h1 (by omega))⟩
  by_cases e : p = i
  · subst e
    rw [hy] at hz; simp at hz; subst hz
    rw [hb]
    refine h.rest _ (fun q h3 h4 hq => ?_)
    obtain ⟨l1, e1⟩ := List.getElem?_eq_some_iff.1 hy
    obtain ⟨l2, e2⟩ := List.getElem?_eq_some_iff.1 hq
    have := nodup_inj (stage_nodup s 4) l1 l2 (e1.trans e2.symm)
    omega
  · exact h.told p z h1 (by omega) hz
theorem BK.put {s : List UInt8} {i y : Nat} {bf : Nat → Nat} (h : BK s i bf) (h1 : 1 ≤ i) (hy : (places s)[i]? = some y) : BK s (i + 1) (up bf y (back s y)) := by
  refine ⟨fun p z h1 h2 hz => ?_, fun z hz => ?_⟩
  · unfold up
    by_cases e : z = y
    · rw [if_pos e, e]
    · rw [if_neg e]
      refine h.told p z h1 ?_ hz
      rcases Nat.lt_or_ge p i with h3 | h3
      · exact h3
      · have : p = i := by omega
        subst this
        rw [hy] at hz; simp at hz; exact absurd hz.symm e
  · unfold up
    by_cases e : z = y
    · subst e; exact absurd hy (hz i h1 (by omega))
    · rw [if_neg e]; exact h.rest z (fun p h1 h2 => hz p h1 (by omega))
theorem BK.fin {s : List UInt8} {i : Nat} {bf : Nat → Nat} (h : BK s i bf) (hi : many s ≤ i) (y : Nat) : bf y = back s y := by
  by_cases hy : y < many s
  · obtain ⟨p, hp⟩ := place_of s hy
    have hpl : p < many s := by
      have := (List.getElem?_eq_some_iff.1 hp).1
      rwa [places, stage_len] at this
    by_cases e : p = 0
    · subst e
      rw [back_first s hp]
      refine h.rest _ (fun q h3 h4 hq => ?_)
      obtain ⟨l1, e1⟩ := List.getElem?_eq_some_iff.1 hp
      obtain ⟨l2, e2⟩ := List.getElem?_eq_some_iff.1 hq
      have := nodup_inj (stage_nodup s 4) l1 l2 (e1.trans e2.symm)
      omega
    · exact h.told p y (by omega) (by omega) hp
  · rw [back_late s (by omega)]
    exact h.rest y (fun p _ _ hp => hy (place_lt s hp))
end Lz
structure BMem (N g m n : Nat) (bf pl : Nat → Nat) (w0 w : World) : Prop where
  below : Below N w0 w
  bk : w.heap[N]? = some (.cells (rowI n bf) 21 (0, 0))
  plc : w.heap[g]? = some (.cells (rowI m pl) 21 (0, 0))
theorem BMem.put {N g m n : Nat} {bf pl : Nat → Nat} {w0 w : World} (h : BMem N g m n bf pl w0 w) (hg : g ≠ N) (i v : Nat) : BMem N g m n (up bf i v) pl w0 (w.setCell ⟨N, i, none⟩ (.int .i32 (v : Int))) :=
  ⟨h.below.setCell (p := ⟨N, i, none⟩) (Nat.le_refl _) _, row_setI v h.bk, by rw [heap_setCell_other _ _ _ _ hg]; exact h.plc⟩
theorem BMem.drewN {N g m n : Nat} {bf pl : Nat → Nat} {w0 w : World} (h : BMem N g m n bf pl w0 w) (q : Nat) : BMem N g m n bf pl w0 (w.drewN q) := ⟨h.below.trans ⟨rfl, rfl, rfl, Nat.le_refl _, fun _ _ => rfl⟩, h.bk, h.plc⟩
set_option maxHeartbeats 800000 in
set_option maxRecDepth 100000 in
theorem backs_any (s : ByteArray) (w : World) (hs : s.size ≤ 1048576) :
    Calls Tryd.prog 33 #[.string s] w fun e w' => e = .returned (.slice (some ⟨w.heap.size, 0, none⟩) s.size s.size) ∧ Below w.heap.size w w' ∧
      w'.heap[w.heap.size]? = some (.cells (rowI s.size (Lz.back s.data.toList)) 21 (0, 0)) := by
  obtain ⟨n, hn⟩ : ∃ n, s.size = n := ⟨_, rfl⟩
  have hmk := run_make_ints .i64 n (by omega) w
  have si : (s.size : Int) = (n : Int) := by omega
  have HP := hideIt (fun w => places_any s w hs)
  have HF := hideIt (fun x w hx => four_any s x w hx hs)
  obtain ⟨L, hL⟩ : ∃ L, s.data.toList = L := ⟨_, rfl⟩
  have hlen : L.length = n := by rw [← hL, str_len, hn]
  rw [hL] at HP HF ⊢
  obtain ⟨m, hm⟩ : ∃ m, Lz.many L = m := ⟨_, rfl⟩
  have hm2 : m = n - 3 := by rw [← hm, Lz.many, hlen]
  have HNEAR := hideIt (fun p x y => @Lz.back_near L p x y)
  have HAT : Hid (∀ p, p < m → ∃ x, (Lz.places L)[p]? = some x ∧ (Lz.places L).getD p 0 = x ∧ x + 3 < n) := by
    refine hideIt (fun p hp => ?_)
    have : p < (Lz.places L).length := by rw [Lz.places, Lz.stage_len, hm]; exact hp
    refine ⟨(Lz.places L)[p], by simp [this], by simp [List.getD, this], ?_⟩
    have h := Lz.place_lt L (p := p) (x := (Lz.places L)[p]) (by simp [this])
    omega
  rw [hm] at HP
  rw [hn]
  have HM := hideIt hm
  have HM2 := hideIt hm2
  have ni : (n : Int) ≤ 1048576 := by omega
  have mi : (m : Int) ≤ 1048576 := by omega
  obtain ⟨N, hN⟩ : ∃ N, w.heap.size = N := ⟨_, rfl⟩
  have HH := hideIt (show Below N w (w.alloc (.cells (rowI n fun _ => 0) 21)) ∧ (w.alloc (.cells (rowI n fun _ => 0) 21)).heap[N]? = some (.cells (rowI n fun _ => 0) 21 (0, 0)) ∧ (w.alloc (.cells (rowI n fun _ => 0) 21)).heap.size = N + 1 from ⟨(Below.refl _ _).alloc (by omega) _, alloc_at hN, by simp [hN]⟩)
  rw [hN]
  clear hm hm2 hL hlen hs
  go_enter Tryd.func33, Tryd.ntmps33
  go_wp2_with (first | (go_at_call 46; refine (HP.out _).mono ?_; rintro e w1 ⟨g, rfl, hg, hb1, hr1⟩))
  have hgN : g ≠ N := by have := HH.out.2.2; omega
  have HB : Hid (BMem N g m n (fun _ => 0) (fun i => (Lz.places L).getD i 0) w w1) := by
    have h := HH.out
    refine hideIt ⟨h.1.trans (hb1.mono (by omega)), ?_, hr1⟩
    rw [hb1.block N (by omega)]; exact h.2.1
  clear hg hb1 hr1 HH hmk HP
  go_loopw [5] (fun t wr => ∃ (p i : Nat) (bf : Nat → Nat), i = p + 1 ∧ (i ≤ m ∨ i = 1) ∧ t = .int .i64 i ∧ Lz.BK L i bf ∧ BMem N g m n bf (fun i => (Lz.places L).getD i 0) w wr) (fun t _ => m - (intOf t).toNat)
  case atStart => exact ⟨0, 1, _, rfl, Or.inr rfl, rfl, ⟨fun p y h1 h2 => by omega, fun _ _ => rfl⟩, HB.out⟩
  case round =>
    obtain ⟨p, i, bf, hpi, hi, rfl, hk, hr⟩ := hrel
    clear HB
    by_cases hlt : i < m
    · have hid : decide ((i : Int) < (m : Int)) = true := by simp; omega
      obtain ⟨x, hx, hx2, hx3⟩ := HAT.out p (by omega)
      obtain ⟨y, hy, hy2, hy3⟩ := HAT.out i hlt
      have near := HNEAR.out p x y hx (by rw [← hpi]; exact hy)
      have c1 : wr.cell? ⟨g, p, none⟩ = some (.int .i32 (x : Int)) := by rw [cellI hr.plc (by omega), hx2]
      have c2 : wr.cell? ⟨g, i, none⟩ = some (.int .i32 (y : Int)) := by rw [cellI hr.plc (by omega), hy2]
      have c3 := cellI (j := y) hr.bk (by omega)
      have fz := frozI (j := y) hr.bk
      have HFX := hideIt (fun w => HF.out x w (by omega))
      have HFY := hideIt (fun w => HF.out y w (by omega))
      have i1 : (i : Int) - 1 = (p : Int) := by omega
      have i2 : (i : Int) < (m : Int) := by omega
      have p2 : (p : Int) < (m : Int) := by omega
      have x1 : (x : Int) < 1048576 := by omega
      have y1 : (y : Int) < 1048576 := by omega
      have y2 : (y : Int) < (n : Int) := by omega
      have HPI := hideIt hpi
      by_cases hd : (y : Int) - (x : Int) ≤ 32768
      · have hd1 : decide ((y : Int) - (x : Int) ≤ 32768) = true := decide_eq_true hd
        by_cases hf : Lz.four L x = Lz.four L y
        · have hb := near.1 hf
          have hb2 : Lz.back L y = y - x := by rw [hb.2, if_pos (by omega)]
          obtain ⟨d, hdd⟩ : ∃ d, y - x = d := ⟨_, rfl⟩
          have d1 : (y : Int) - (x : Int) = (d : Int) := by omega
          rw [hdd] at hb2
          have HK := hideIt (hk.put (by omega) hy)
          rw [hb2] at HK
          have HP := hideIt (fun q => (hr.drewN q).put hgN y d)
          obtain ⟨F, hFd⟩ : ∃ F, bs (Lz.four L y) = F := ⟨_, rfl⟩
          rw [hf] at HFX
          rw [hFd] at HFX HFY
          rw [d1] at hd hd1
          clear hk hr near hb hb2 hdd hf hFd hx hy hx2 hy2 hpi
          go_wp2
          go_quiet (fail)
          go_wp2_with (first | (go_at_call_of 47 (Value.int IntKind.i32 (x : Int)); refine (HFX.out _).mono ?_; rintro e w2 ⟨rfl, hw2⟩; obtain rfl := hw2.symm) | (go_at_call 47; refine (HFY.out _).mono ?_; rintro e w3 ⟨rfl, hw3⟩; obtain rfl := hw3.symm))
          go_roundw
          case rel => exact ⟨i, i + 1, _, rfl, Or.inl (by omega), by go_num, HK.out, HP.out _⟩
          case measure => simp [intOf]; omega
        · have hb := near.2 hf
          have HK := hideIt (hk.same hy hb)
          have HP := hideIt (fun q => hr.drewN q)
          obtain ⟨F, hFd⟩ : ∃ F, bs (Lz.four L x) = F := ⟨_, rfl⟩
          obtain ⟨G, hGd⟩ : ∃ G, bs (Lz.four L y) = G := ⟨_, rfl⟩
          have hFG : ¬ F.toList = G.toList := by
            rw [ByteArray.toList_eq, ByteArray.toList_eq, ← hFd, ← hGd, bs_list, bs_list]
            exact hf
          have hFG2 : (F.toList == G.toList) = false := beq_eq_false_iff_ne.2 hFG
          rw [hFd] at HFX
          rw [hGd] at HFY
          obtain ⟨z, hz⟩ : ∃ z : Int, (y : Int) - (x : Int) = z := ⟨_, rfl⟩
          have z1 : -1048576 ≤ z := by omega
          rw [hz] at hd hd1
          have zw : IntKind.i32.wrap z = z := by
            simp [IntKind.wrap, IntKind.bits, IntKind.signed]
            split <;> omega
          clear hk hr near hb hf hFd hGd hx hy hx2 hy2 hpi
          go_wp2
          go_quiet (fail)
          go_wp2_with (first | (go_at_call_of 47 (Value.int IntKind.i32 (x : Int)); refine (HFX.out _).mono ?_; rintro e w2 ⟨rfl, hw2⟩; obtain rfl := hw2.symm) | (go_at_call 47; refine (HFY.out _).mono ?_; rintro e w3 ⟨rfl, hw3⟩; obtain rfl := hw3.symm))
          go_roundw
          case rel => exact ⟨i, i + 1, _, rfl, Or.inl (by omega), by go_num, HK.out, HP.out _⟩
          case measure => simp [intOf]; omega
      · have hd1 : decide ((y : Int) - (x : Int) ≤ 32768) = false := decide_eq_false hd
        have hb : Lz.back L y = 0 := by
          by_cases hf : Lz.four L x = Lz.four L y
          · rw [(near.1 hf).2, if_neg (by omega)]
          · exact near.2 hf
        have HK := hideIt (hk.same hy hb)
        have HP := hideIt (fun q => hr.drewN q)
        clear hk hr near hb hx hy hx2 hy2 hpi
        go_wp2
        go_quiet (fail)
        go_wp2
        go_roundw
        case rel => exact ⟨i, i + 1, _, rfl, Or.inl (by omega), by go_num, HK.out, HP.out _⟩
        case measure => simp [intOf]; omega
    · have hid : decide ((i : Int) < (m : Int)) = false := by simp; omega
      have HR : Hid (Below N w wr ∧ wr.heap[N]? = some (.cells (rowI n (Lz.back L)) 21 (0, 0))) := by
        refine hideIt ⟨hr.below, ?_⟩
        rw [hr.bk, rowI_congr (fun y _ => hk.fin (by rw [HM.out]; omega) y)]
      clear hr hk
      go_wp2
      go_ret
      exact ⟨rfl, HR.out⟩
end Go.Proofs.YtjiigdjopcegeaaDoor.Ld
