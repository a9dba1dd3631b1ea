/- Indexes: their bytes, and what bytes tell, as plain lists. -/
import Derived.Test.YtllpfpbpdgpnkaaDoorIxXx
import Derived.Test.YtllpfpbpdgpnkaaDoorIxYp
namespace Go.Proofs.YtllpfpbpdgpnkaaDoor.Ix
open Cb Go.RowKit Go.Shelf
def lineL : List UInt8 := [112, 111, 108, 108, 97, 114, 100, 32, 105, 110, 100, 101, 120, 10]
def countsL (m : List Sp) : Nat → List UInt8
  | 0 => []
  | k + 1 => countsL m k ++ fourL (cnt m k)
theorem countsL_next (m : List Sp) (k : Nat) : countsL m (k + 1) = countsL m k ++ fourL (cnt m k) := rfl
theorem countsL_len (m : List Sp) : ∀ k, (countsL m k).length = k * 4
  | 0 => rfl
  | k + 1 => by rw [countsL_next, List.length_append, countsL_len m k, fourL_len]; omega
def spotL (x : Sp) : List UInt8 := x.d.data.toList ++ fourL x.pl.toNat
def spotsL (m : List Sp) : List UInt8 := m.flatMap spotL
theorem spotsL_cons (x : Sp) (r : List Sp) : spotsL (x :: r) = spotL x ++ spotsL r := List.flatMap_cons
theorem spotsL_next (m : List Sp) (i : Nat) (x : Sp) (h : m[i]? = some x) : spotsL (m.take (i + 1)) = spotsL (m.take i) ++ spotL x := by
  obtain ⟨hi, rfl⟩ := List.getElem?_eq_some_iff.1 h
  rw [List.take_succ_eq_append_getElem hi, spotsL, List.flatMap_append, List.flatMap_singleton]
  rfl
def Right (m : List Sp) : Prop := ∀ x ∈ m, wrong x = false
theorem size_list (d : ByteArray) : d.data.toList.length = d.size := by rw [Array.length_toList]; rfl
theorem spotL_len {x : Sp} (h : wrong x = false) : (spotL x).length = 36 := by
  have := wrong_size h
  rw [spotL, List.length_append, fourL_len, size_list, this.1]
theorem spotsL_len : ∀ {m : List Sp}, Right m → (spotsL m).length = m.length * 36
  | [], _ => rfl
  | x :: r, h => by
    have ih := spotsL_len (m := r) (fun y hy => h y (by simp [hy]))
    have hx := spotL_len (h x (by simp))
    have e := spotsL_cons x r
    rw [e, List.length_append, hx, ih, List.length_cons]
    omega
def headL (pack : ByteArray) : List UInt8 := lineL ++ pack.data.toList
def bodyL (pack : ByteArray) (m : List Sp) : List UInt8 := headL pack ++ countsL m 256 ++ spotsL m
def encL (pack : ByteArray) (m : List Sp) : List UInt8 := bodyL pack m ++ shaL (bodyL pack m)
theorem headL_len {pack : ByteArray} (h : pack.size = 32) : (headL pack).length = 46 := by
  rw [headL, List.length_append, size_list, h]; rfl
theorem bodyL_len {pack : ByteArray} {m : List Sp} (h : pack.size = 32) (hm : Right m) : (bodyL pack m).length = 1070 + m.length * 36 := by
  rw [bodyL, List.length_append, List.length_append, headL_len h, countsL_len, spotsL_len hm]
theorem encL_len {pack : ByteArray} {m : List Sp} (h : pack.size = 32) (hm : Right m) : (encL pack m).length = 1102 + m.length * 36 := by
  rw [encL, List.length_append, bodyL_len h hm, shaL_len]; omega
/-- The spots that bytes tell. -/
def rd1 (L : List UInt8) (i : Nat) : Sp := ⟨bs ((L.drop (i * 36)).take 32), (numR ((L.drop (i * 36 + 32)).take 4) : Int)⟩
def rdS (L : List UInt8) (k : Nat) : List Sp := (List.range k).map (rd1 L)
theorem rdS_len (L : List UInt8) (k : Nat) : (rdS L k).length = k := by simp [rdS]
theorem rdS_at (L : List UInt8) (k i : Nat) (h : i < k) : (rdS L k)[i]? = some (rd1 L i) := by simp [rdS, h]
theorem rdS_next (L : List UInt8) (k : Nat) : rdS L (k + 1) = rdS L k ++ [rd1 L k] := by simp [rdS, List.range_succ]
theorem rdS_take (L : List UInt8) (e k : Nat) (h : k * 36 ≤ e) : rdS (L.take e) k = rdS L k := by
  unfold rdS
  apply List.map_congr_left
  intro i hi
  have hi' := List.mem_range.1 hi
  unfold rd1
  rw [List.drop_take, List.drop_take, List.take_take, List.take_take, Nat.min_eq_left (by omega), Nat.min_eq_left (by omega)]
theorem drop_spots : ∀ (i : Nat) {m : List Sp}, Right m → (spotsL m).drop (i * 36) = spotsL (m.drop i)
  | 0, m, _ => by simp
  | i + 1, [], _ => by simp [spotsL]
  | i + 1, x :: r, h => by
    have e := spotsL_cons x r
    have hx := spotL_len (h x (by simp))
    rw [e, show (i + 1) * 36 = (spotL x).length + i * 36 by rw [hx]; omega, List.drop_append, List.drop_of_length_le (by omega), List.nil_append, Nat.add_sub_cancel_left, drop_spots i (fun y hy => h y (by simp [hy])), List.drop_succ_cons]
theorem rdS_spots {m : List Sp} (h : Right m) : rdS (spotsL m) m.length = m := by
  apply List.ext_getElem?
  intro i
  by_cases hi : i < m.length
  · rw [rdS_at _ _ _ hi, List.getElem?_eq_getElem hi]
    have hw := h m[i] (List.getElem_mem hi)
    obtain ⟨s1, s2, s3⟩ := wrong_size hw
    have e : spotsL (m.drop i) = spotL m[i] ++ spotsL (m.drop (i + 1)) := by
      rw [List.drop_eq_getElem_cons hi, spotsL_cons]
    have hl : m[i].d.data.toList.length = 32 := by rw [size_list, s1]
    have e1 : ((spotsL m).drop (i * 36)).take 32 = m[i].d.data.toList := by
      rw [drop_spots i h, e, spotL, List.append_assoc, List.take_left' hl]
    have e2 : ((spotsL m).drop (i * 36 + 32)).take 4 = fourL m[i].pl.toNat := by
      rw [← List.drop_drop, drop_spots i h, e, spotL, List.append_assoc, List.drop_left' hl, List.take_left' (fourL_len _)]
    unfold rd1
    rw [e1, e2, bs_data, numR_four _ (by omega), Int.toNat_of_nonneg s2]
  · rw [List.getElem?_eq_none (by rw [rdS_len]; omega), List.getElem?_eq_none (by omega)]
/-- What bytes tell: the error, the pack's sum, the spots. -/
def packR (s : List UInt8) : ByteArray := bs ((s.drop 14).take 32)
def spotsOf (s : List UInt8) : List Sp := rdS (s.drop 1070) ((s.length - 1102) / 36)
def ldM (s : List UInt8) : Option (List Sp) := match srtF [] (spotsOf s) with
  | none => none
  | some m => if encL (packR s) m = s then some m else none
def ldE (s : List UInt8) : Nat :=
  if s.length < 1102 then 4 else if ¬ shaL (s.take (s.length - 32)) = s.drop (s.length - 32) then 80
  else if ¬ s.take 14 = lineL ∨ ¬ (s.length - 1102) % 36 = 0 then 6 else if 2048 < (s.length - 1102) / 36 then 3
  else if (ldM s).isSome = true then 0 else 6
theorem enc_body {s : List UInt8} {pack : ByteArray} {m : List Sp} (hs : shaL (s.take (s.length - 32)) = s.drop (s.length - 32)) : encL pack m = s ↔ bodyL pack m = s.take (s.length - 32) := by
  have e : s.take (s.length - 32) ++ s.drop (s.length - 32) = s := List.take_append_drop _ _
  constructor
  · intro h
    have h1 : s.length - 32 = (bodyL pack m).length := by
      rw [← h, encL, List.length_append, shaL_len]; omega
    rw [h1, ← h, encL, List.take_left' rfl]
  · intro h
    rw [encL, h, hs, e]
theorem spotsOf_right {m : List Sp} {pack : ByteArray} (hp : pack.size = 32) (hm : Right m) : spotsOf (encL pack m) = m ∧ packR (encL pack m) = pack ∧ (encL pack m).take 14 = lineL := by
  have hl := encL_len hp hm
  have hh := headL_len hp
  have hc := countsL_len m 256
  refine ⟨?_, ?_, ?_⟩
  · rw [spotsOf, hl, show 1102 + m.length * 36 - 1102 = m.length * 36 by omega, Nat.mul_div_cancel _ (by omega)]
    have e : (encL pack m).drop 1070 = spotsL m ++ shaL (bodyL pack m) := by
      rw [encL, bodyL, List.append_assoc, List.drop_left' (by rw [List.length_append, hh, hc])]
    rw [e, ← rdS_take _ (m.length * 36) _ (Nat.le_refl _), List.take_left' (by rw [spotsL_len hm]), rdS_spots hm]
  · have hps : pack.data.toList.length = 32 := by rw [size_list, hp]
    rw [packR, encL, bodyL, headL, List.append_assoc, List.append_assoc, List.append_assoc, List.drop_left' (show lineL.length = 14 from rfl), List.take_left' hps, bs_data]
  · rw [encL, bodyL, headL, List.append_assoc, List.append_assoc, List.append_assoc, List.take_left' (show lineL.length = 14 from rfl)]
/-- What was made is read again. -/
theorem ld_enc {m : List Sp} {pack : ByteArray} (hp : pack.size = 32) (hm : Right m) (hu : Up m) (hn : m.length ≤ 2048) : ldM (encL pack m) = some m ∧ ldE (encL pack m) = 0 ∧ packR (encL pack m) = pack := by
  have hl := encL_len hp hm
  obtain ⟨h1, h2, h3⟩ := spotsOf_right hp hm
  have hs : srtF [] m = some m := by
    have := srtF_up m [] (by simpa using hu) hm
    simpa using this
  have hM : ldM (encL pack m) = some m := by
    rw [ldM, h1, hs]
    simp only [h2, if_true]
  have hb : (encL pack m).length - 32 = (bodyL pack m).length := by rw [hl, bodyL_len hp hm]; omega
  refine ⟨hM, ?_, h2⟩
  unfold ldE
  rw [hM, hb, h3, hl]
  have e1 : (encL pack m).take (bodyL pack m).length = bodyL pack m := by rw [encL, List.take_left' rfl]
  have e2 : (encL pack m).drop (bodyL pack m).length = shaL (bodyL pack m) := by rw [encL, List.drop_left' rfl]
  rw [e1, e2, if_neg (by omega), if_neg (by simp), if_neg (by simp), if_neg (by omega)]
  rfl
theorem ldM_some {s : List UInt8} {m : List Sp} (h : ldM s = some m) : srtF [] (spotsOf s) = some m ∧ encL (packR s) m = s := by
  unfold ldM at h
  split at h
  · cases h
  · rename_i k hk
    split at h
    · rename_i he
      cases h
      exact ⟨hk, he⟩
    · cases h
theorem srt_right {l m : List Sp} (h : srtF [] l = some m) : Right m ∧ Up m ∧ m.length = l.length := by
  obtain ⟨a, b, c⟩ := srtF_some l [] m List.Pairwise.nil h
  rw [List.nil_append] at b
  exact ⟨fun x hx => c x (b.mem_iff.1 hx), a, b.length_eq⟩
end Go.Proofs.YtllpfpbpdgpnkaaDoor.Ix
