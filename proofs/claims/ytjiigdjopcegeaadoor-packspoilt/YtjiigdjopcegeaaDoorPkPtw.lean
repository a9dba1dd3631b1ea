/- Twins: of some texts, are two unlike, and of one id: the law's own look, walked. -/
import Derived.Test.YtjiigdjopcegeaaDoorPyAll
import Derived.Maps.AppendAt
import Derived.BigQuiet
namespace Go.Proofs.YtjiigdjopcegeaaDoor.Pk
open Cb Ld Go.RowKit Go.Shelf Go.Maps
/-- Two texts that are unlike and of one id. -/
def twin (a b : ByteArray) : Prop := shaL b.data.toList = shaL a.data.toList ∧ b.data.toList ≠ a.data.toList
/-- Among the first n texts, and with the n-th one's first k. -/
def TwinUp (l : List ByteArray) (n k : Nat) : Prop := ∃ (i j : Nat) (a b : ByteArray), j < i ∧ (i < n ∨ (i = n ∧ j < k)) ∧ l[i]? = some a ∧ l[j]? = some b ∧ twin a b
def TwinIn (l : List ByteArray) : Prop := TwinUp l l.length 0
def idV (x : ByteArray) : Value := .string (bs (shaL x.data.toList))
theorem twin_step {l : List ByteArray} {n k : Nat} {a b : ByteArray} (ha : l[n]? = some a) (hb : l[k]? = some b) (h : TwinUp l n (k + 1)) : TwinUp l n k ∨ twin a b := by
  obtain ⟨i, j, x, y, h1, h2, h3, h4, h5⟩ := h
  rcases h2 with h2 | ⟨rfl, h2⟩
  · exact .inl ⟨i, j, x, y, h1, .inl h2, h3, h4, h5⟩
  · by_cases e : j = k
    · subst e
      rw [ha] at h3
      rw [hb] at h4
      cases h3
      cases h4
      exact .inr h5
    · exact .inl ⟨i, j, x, y, h1, .inr ⟨rfl, by omega⟩, h3, h4, h5⟩
theorem twin_next {l : List ByteArray} {n : Nat} (h : TwinUp l (n + 1) 0) : TwinUp l n n := by
  obtain ⟨i, j, x, y, h1, h2, h3, h4, h5⟩ := h
  rcases h2 with h2 | ⟨_, h2⟩
  · by_cases e : i = n
    · exact ⟨i, j, x, y, h1, .inr ⟨e, by omega⟩, h3, h4, h5⟩
    · exact ⟨i, j, x, y, h1, .inl (by omega), h3, h4, h5⟩
  · omega
/-- Texts that lie in memory one behind the other. -/
def TCells (w : World) (b o : Nat) (l : List ByteArray) : Prop := b < w.heap.size ∧ ∀ (i : Nat) (x : ByteArray), l[i]? = some x → w.cell? ⟨b, o + i, none⟩ = some (.string x)
def TRow (w : World) (v : Value) (l : List ByteArray) : Prop := ∃ a c, v = .slice a l.length c ∧ l.length ≤ c ∧ (c ≤ maxLen ∧ (a = none → c = 0)) ∧ (0 < l.length → ∃ b o, a = some ⟨b, o, none⟩ ∧ TCells w b o l)
theorem infoStr : (Tryd.prog.info? 9).map (fun i => (i.zero, i.size, i.bytes)) = some (some (.string ⟨#[]⟩), 1, 16) := by kernel_rfl
theorem cell_one_new (w : World) (I : ByteArray) (t : TypeId) (j : Nat) (u : Value) (h : [Value.string I][j]? = some u) : (w.alloc (.cells #[.string I] t)).cell? ((⟨w.heap.size, 0, none⟩ : Addr).add j) = some u := by
  have hrow : (w.alloc (.cells #[.string I] t)).heap[w.heap.size]? = some (.cells #[.string I] t (0, 0)) := alloc_at rfl
  match j, h with
  | 0, h => exact cellAt hrow (by simpa using h)
  | j + 1, h => simp at h
theorem id_str (x : ByteArray) (w : World) (h : x.size ≤ 10000000) : Calls Tryd.prog 45 #[.string x] w fun e w' => e = .returned (.string (bs (shaL x.data.toList))) ∧ Below w.heap.size w w' := by
  have H := hideIt (refsumOf_any x.data.toList w (by rw [str_len]; omega))
  rw [bs_data] at H
  go_enter Tryd.func45, Tryd.ntmps45
  go_wp2_with (first | (go_at_call 21; refine H.out.mono ?_; rintro e w1 ⟨rfl, hb1⟩))
  go_ret
  exact ⟨rfl, hb1⟩
theorem ids_snoc (l : List ByteArray) (i : Nat) (x : ByteArray) (h : l[i]? = some x) : (l.take (i + 1)).map idV = (l.take i).map idV ++ [idV x] := by
  obtain ⟨hi, rfl⟩ := List.getElem?_eq_some_iff.1 h
  rw [List.take_succ_eq_append_getElem hi, List.map_append]
  rfl
set_option maxHeartbeats 3200000 in
set_option maxRecDepth 100000 in
theorem twins_any (l : List ByteArray) (v : Value) (w : World) (h : TRow w v l) (hn : l.length ≤ 1000) (hs : ∀ x ∈ l, x.size ≤ 10000000) :
    Calls Tryd.prog 30 #[v] w fun e w' => (∃ y, e = .returned (.bool y) ∧ (TwinIn l → y = true)) ∧ Below w.heap.size w w' := by
  obtain ⟨i0, hi0, hz0, hz1, hz2⟩ := info_parts infoStr
  obtain ⟨la, lc, rfl, hl1, hl2, hl3⟩ := h
  obtain ⟨n, hnn⟩ : ∃ n, l.length = n := ⟨_, rfl⟩
  have HN := hideIt hnn
  have HTI : Hid (TwinIn l → TwinUp l n 0) := hideIt (by rw [← hnn]; exact fun h => h)
  rw [hnn] at hl1 hl3 hn ⊢
  have HL3 := hideIt hl3
  have HS := hideIt hs
  clear hl3 hs hnn hl1 hl2
  have nI : (n : Int) ≤ 1000 := by omega
  go_enter Tryd.func30, Tryd.ntmps30
  go_wp2
  go_loopw [2, 3, 4] (fun a u t wr => ∃ (i : Nat) (y : Bool), i ≤ n ∧ t = .int .i64 i ∧ a = .bool y ∧ Hid (TwinUp l i 0 → y = true) ∧ wr.ownsRow w.heap.size 9 1 u i ((l.take i).map idV) ∧ Below w.heap.size w wr) (fun _ _ t _ => n - (intOf t).toNat)
  case atStart => exact ⟨0, false, by omega, rfl, rfl, hideIt (by rintro ⟨i, j, _, _, h1, h2, _⟩; omega), ⟨rfl, .inr ⟨w.heap.size, 0, #[], rfl, Nat.le_refl _, alloc_at rfl, by simp, by simp, rfl, rfl⟩⟩, (Below.refl _ w).alloc (Nat.le_refl _) _⟩
  case round =>
    obtain ⟨i, y, hi, rfl, rfl, HY, hrow, hb⟩ := hrel
    have HO := hideIt hrow
    have HB := hideIt hb
    clear hrow hb
    by_cases hlt : i < n
    · have hid : decide ((i : Int) < (n : Int)) = true := decide_eq_true (by omega)
      have i1 : (i : Int) < (n : Int) := by omega
      obtain ⟨x, hx⟩ : ∃ x, l[i]? = some x := ⟨_, List.getElem?_eq_getElem (by rw [HN.out]; exact hlt)⟩
      obtain ⟨lb, lo, rfl, hlb, hlc⟩ := HL3.out (by omega)
      have x0 : wr.cell? ⟨lb, lo + i, none⟩ = some (.string x) := by
        rw [HB.out.cell (p := ⟨lb, lo + i, none⟩) hlb]
        exact hlc i x hx
      have HID := hideIt (id_str x wr (HS.out x (List.mem_of_getElem? hx)))
      have HX := hideIt hx
      have HLC := hideIt (And.intro hlb hlc)
      obtain ⟨I, hI⟩ : ∃ I, bs (shaL x.data.toList) = I := ⟨_, rfl⟩
      rw [hI] at HID
      have HI := hideIt hI
      clear hx hlc hI
      go_wp2_with (go_at_call 45; refine HID.out.mono ?_; rintro e w1 ⟨rfl, hb1⟩; have HB1 := hideIt hb1; clear hb1)
      have HO1 := hideIt (own_below HO.out HB1.out)
      have HBB : Hid (Below w.heap.size w w1) := hideIt (HB.out.trans (HB1.out.mono HB.out.size))
      clear x0
      go_loopw [2, 6] (fun a t wr2 => ∃ (k q : Nat) (z : Bool), k ≤ i ∧ t = .int .i64 k ∧ a = .bool z ∧ Hid (TwinUp l i k → z = true) ∧ wr2 = w1.drewN q) (fun _ t _ => i - (intOf t).toNat)
      case atStart => exact ⟨0, 0, y, by omega, rfl, rfl, HY, rfl⟩
      case round =>
        obtain ⟨k, q, z, hk, rfl, rfl, HZ, rfl⟩ := hrel
        by_cases hkl : k < i
        · have hkd : decide ((k : Int) < (i : Int)) = true := decide_eq_true (by omega)
          have k1 : (k : Int) < (i : Int) := by omega
          have k2 : (k : Int) < (n : Int) := by omega
          obtain ⟨y0, hy0⟩ : ∃ x, l[k]? = some x := ⟨_, List.getElem?_eq_getElem (by rw [HN.out]; omega)⟩
          have xi : w1.cell? ⟨lb, lo + i, none⟩ = some (.string x) := by
            rw [HBB.out.cell (p := ⟨lb, lo + i, none⟩) HLC.out.1]
            exact HLC.out.2 i x HX.out
          have xk : w1.cell? ⟨lb, lo + k, none⟩ = some (.string y0) := by
            rw [HBB.out.cell (p := ⟨lb, lo + k, none⟩) HLC.out.1]
            exact HLC.out.2 k y0 hy0
          have ho := HO1.out
          rcases ho.2 with ⟨_, e2⟩ | ⟨g, cap, cur, rfl, hge, hg, _⟩
          · omega
          have ck := ho.cellAt k (by omega)
          have hmk : ((l.take i).map idV)[k]? = some (idV y0) := by rw [List.getElem?_map, List.getElem?_take, if_pos hkl, hy0]; rfl
          rw [hmk, idV] at ck
          have HST := hideIt (fun h => twin_step HX.out hy0 h)
          clear ho hge hg hmk hy0
          cases z with
          | true =>
            go_wp2
            go_quiet (fail)
            go_wp2
            go_roundw
            case rel => exact ⟨k + 1, _, true, by omega, by go_num, rfl, hideIt (fun _ => rfl), rfl⟩
            case measure => simp [intOf]; omega
          | false =>
            have hnt : ¬ TwinUp l i k := fun h => by cases HZ.out h
            by_cases he : shaL y0.data.toList = shaL x.data.toList
            · have q1 : ((bs (shaL y0.data.toList)).toList == I.toList) = true := by rw [← HI.out, bs_eq]; exact decide_eq_true he
              by_cases hu : y0.data.toList = x.data.toList
              · have q2 : (y0.toList == x.toList) = true := by rw [ByteArray.toList_eq, ByteArray.toList_eq, hu]; simp
                have HC : Hid (TwinUp l i (k + 1) → false = true) := hideIt (fun h => (HST.out h).elim (fun h => absurd h hnt) (fun h => absurd hu h.2))
                generalize bs (shaL y0.data.toList) = J at ck q1
                clear he hu hnt
                go_wp2
                go_quiet (fail)
                go_wp2
                go_roundw
                case rel => exact ⟨k + 1, _, false, by omega, by go_num, rfl, HC, rfl⟩
                case measure => simp [intOf]; omega
              · have q2 : (y0.toList == x.toList) = false := by rw [ByteArray.toList_eq, ByteArray.toList_eq]; exact beq_eq_false_iff_ne.2 hu
                generalize bs (shaL y0.data.toList) = J at ck q1
                clear he hu hnt
                go_wp2
                go_quiet (fail)
                go_wp2
                go_roundw
                case rel => exact ⟨k + 1, _, true, by omega, by go_num, rfl, hideIt (fun _ => rfl), rfl⟩
                case measure => simp [intOf]; omega
            · have q1 : ((bs (shaL y0.data.toList)).toList == I.toList) = false := by rw [← HI.out, bs_eq]; exact decide_eq_false he
              have HC : Hid (TwinUp l i (k + 1) → false = true) := hideIt (fun h => (HST.out h).elim (fun h => absurd h hnt) (fun h => absurd h.1 he))
              generalize bs (shaL y0.data.toList) = J at ck q1
              clear he hnt
              go_wp2
              go_quiet (fail)
              go_wp2
              go_roundw
              case rel => exact ⟨k + 1, _, false, by omega, by go_num, rfl, HC, rfl⟩
              case measure => simp [intOf]; omega
        · have hkd : decide ((k : Int) < (i : Int)) = false := decide_eq_false (by omega)
          obtain rfl : k = i := by omega
          have hO2 := HO1.out
          have hBs : w.heap.size ≤ w1.heap.size := HBB.out.size
          go_wp2_with (at_builtin; refine wpList_append_own _ rfl _ _ 60 rfl w.heap.size 9 i0 (.string ⟨#[]⟩) 1 16 Tryd.underlying60 hi0 hz0 hz1 hz2 rfl (by decide) _ _ _ rfl (World.ownsRow.alloc (w := w1.drewN q) hO2 _) ⟨w1.heap.size, 0, none⟩ 1 1 [.string I] rfl rfl (cell_one_new _ _ _) (fun x hx => by simp at hx; subst hx; rfl) (by unfold maxLen; omega) (by omega) (by simp; omega) ?_; intro v3 w3 hown3 hg3 hnil3)
          go_roundw
          case rel =>
            refine ⟨k + 1, z, by omega, by go_num, rfl, hideIt (fun h => HZ.out (twin_next h)), ?_, ?_⟩
            · rw [ids_snoc l k x HX.out, idV, HI.out]
              simpa using hown3
            · have hbq : Below w.heap.size w (w1.drewN q) := HBB.out.trans ⟨rfl, rfl, rfl, Nat.le_refl _, fun _ _ => rfl⟩
              exact (hbq.alloc hBs _).grown hg3 (by simp; omega) (fun b hb => row_ge HO1.out b hb)
          case measure => simp [intOf]; omega
    · have hid : decide ((i : Int) < (n : Int)) = false := decide_eq_false (by omega)
      obtain rfl : i = n := by omega
      go_wp2
      go_ret
      exact ⟨⟨y, rfl, fun h => HY.out (HTI.out h)⟩, HB.out⟩
end Go.Proofs.YtjiigdjopcegeaaDoor.Pk
