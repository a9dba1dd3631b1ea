/- Lines of a body: plain readings. -/
import Derived.Test.YtmjffngpaoaflaaGreatDoorOp
import Derived.Test.YtmjffngpaoaflaaGreatDoorLbAll
namespace Go.Proofs.YtmjffngpaoaflaaGreatDoor
namespace Ob
open Go.RowKit
/-- A line: a word, and what is told by it. -/
def lineL (wd t : List UInt8) : List UInt8 := wd ++ 32 :: (t ++ [10])
/-- The first line, what stands behind it, and whether it ends. -/
def fsl (L : List UInt8) : List UInt8 × List UInt8 × Bool := match cutc 10 L with
  | none => (L, [], false)
  | some (a, r) => (a, r, true)
def hasW (wd a : List UInt8) : Bool := (wd ++ [32]).isPrefixOf a
/-- What the first line tells by a word. -/
def tkT (wd L : List UInt8) : List UInt8 := if hasW wd (fsl L).1 = true then (fsl L).1.drop (wd.length + 1) else (fsl L).1
def tkR (L : List UInt8) : List UInt8 := (fsl L).2.1
def tkO (wd L : List UInt8) : Bool := (fsl L).2.2 && hasW wd (fsl L).1
theorem fsl_len (L : List UInt8) : (fsl L).1.length ≤ L.length ∧ (fsl L).2.1.length ≤ L.length ∧ ((fsl L).1.length + (fsl L).2.1.length ≤ L.length) := by
  unfold fsl
  cases h : cutc 10 L with
  | none => simp
  | some p =>
    obtain ⟨a, r⟩ := p
    obtain ⟨e, -⟩ := cutc_some 10 L a r h
    have := congrArg List.length e
    simp at this
    simp only
    omega
theorem tkT_len (wd L : List UInt8) : (tkT wd L).length ≤ L.length := by
  have := (fsl_len L).1
  unfold tkT
  split
  · simp; omega
  · exact this
theorem tkR_len (L : List UInt8) : (tkR L).length ≤ L.length := (fsl_len L).2.1
theorem pre_app (a b : List UInt8) : a.isPrefixOf (a ++ b) = true := by simp
theorem fsl_line (wd t R : List UInt8) (hw : (10 : UInt8) ∉ wd) (ht : (10 : UInt8) ∉ t) : fsl (lineL wd t ++ R) = (wd ++ 32 :: t, R, true) := by
  have e : lineL wd t ++ R = (wd ++ 32 :: t) ++ 10 :: R := by simp [lineL]
  have n : (10 : UInt8) ∉ wd ++ 32 :: t := by
    simp only [List.mem_append, List.mem_cons, not_or]
    exact ⟨hw, by decide, ht⟩
  rw [fsl, e, cutc_mk 10 _ _ n]
theorem hasW_line (wd t : List UInt8) : hasW wd (wd ++ 32 :: t) = true := by
  have : wd ++ 32 :: t = (wd ++ [32]) ++ t := by simp
  rw [hasW, this]
  exact pre_app _ _
theorem tkT_line (wd t R : List UInt8) (hw : (10 : UInt8) ∉ wd) (ht : (10 : UInt8) ∉ t) : tkT wd (lineL wd t ++ R) = t := by
  rw [tkT, fsl_line wd t R hw ht]
  simp only
  rw [if_pos (hasW_line wd t)]
  have : wd ++ 32 :: t = (wd ++ [32]) ++ t := by simp
  rw [this, List.drop_append_of_le_length (by simp)]
  simp
theorem tkR_line (wd t R : List UInt8) (hw : (10 : UInt8) ∉ wd) (ht : (10 : UInt8) ∉ t) : tkR (lineL wd t ++ R) = R := by rw [tkR, fsl_line wd t R hw ht]
theorem tkO_line (wd t R : List UInt8) (hw : (10 : UInt8) ∉ wd) (ht : (10 : UInt8) ∉ t) : tkO wd (lineL wd t ++ R) = true := by
  rw [tkO, fsl_line wd t R hw ht]
  simp only [Bool.true_and]
  exact hasW_line wd t
/-- What is read from the first line is that line. -/
theorem line_back (wd L : List UInt8) (h : tkO wd L = true) : L = lineL wd (tkT wd L) ++ tkR L := by
  unfold tkO at h
  unfold tkT tkR
  unfold fsl at h ⊢
  cases hc : cutc 10 L with
  | none => rw [hc] at h; simp at h
  | some p =>
    obtain ⟨a, r⟩ := p
    rw [hc] at h
    simp only [Bool.true_and] at h
    obtain ⟨e, -⟩ := cutc_some 10 L a r hc
    simp only
    rw [if_pos h]
    unfold hasW at h
    obtain ⟨t, ht⟩ := List.isPrefixOf_iff_prefix.1 h
    have : a.drop (wd.length + 1) = t := by
      rw [← ht, List.drop_append_of_le_length (by simp)]
      simp
    rw [this, lineL, e, ← ht]
    simp
/-- The text behind an empty line. -/
def txO (L : List UInt8) : Bool := ([10] : List UInt8).isPrefixOf L
def txT (L : List UInt8) : List UInt8 := if txO L = true then L.drop 1 else L
theorem txT_len (L : List UInt8) : (txT L).length ≤ L.length := by
  unfold txT
  split
  · simp
  · exact Nat.le_refl _
theorem tx_line (t : List UInt8) : txO (10 :: t) = true ∧ txT (10 :: t) = t := by
  have h : txO (10 :: t) = true := by simp [txO, List.isPrefixOf]
  exact ⟨h, by rw [txT, if_pos h]; rfl⟩
theorem tx_back (L : List UInt8) (h : txO L = true) : L = 10 :: txT L := by
  rw [txT, if_pos h]
  unfold txO at h
  cases L with
  | nil => simp [List.isPrefixOf] at h
  | cons x r =>
    simp [List.isPrefixOf] at h
    rw [← h]
    rfl
def objectW : List UInt8 := [111, 98, 106, 101, 99, 116]
def kindW : List UInt8 := [107, 105, 110, 100]
def nameW : List UInt8 := [110, 97, 109, 101]
def tagsW : List UInt8 := [116, 97, 103, 115, 47]
/-- A tag. -/
structure Tg where
  tgt : ByteArray
  kd : Int
  nm : ByteArray
  tx : ByteArray
def tgV (t : Tg) : Value := .agg #[.string t.tgt, .int .i64 t.kd, .string t.nm, .string t.tx]
def tgZ : Tg := ⟨⟨#[]⟩, 0, ⟨#[]⟩, ⟨#[]⟩⟩
def idB (s : ByteArray) : Bool := decide (s.size = 32)
def textB (s : ByteArray) : Bool := decide (s.size ≤ 4096) && decide (Lb.bad s s.size 0 = 0)
def tagN (s : ByteArray) : Bool := headB (bs tagsW ++ s) || tagB (bs tagsW ++ s)
/-- Why a tag may not be. -/
def tagE (t : Tg) : Int := if 1 ≤ t.kd ∧ t.kd ≤ 4 then (if (idB t.tgt && tagN t.nm && textB t.tx) = true then 0 else 6) else 70
/-- A tag's body. -/
def putT (t : Tg) : List UInt8 := lineL objectW (Cb.Cd.hexL t.tgt.data.toList) ++ (lineL kindW (kw t.kd) ++ (lineL nameW t.nm.data.toList ++ 10 :: t.tx.data.toList))
def putTR (t : Tg) : List UInt8 × Int := if tagE t = 0 then (putT t, 0) else ([], tagE t)
theorem bs_extract (l : List UInt8) (a b : Nat) : (bs l).extract a b = bs ((l.drop a).take (b - a)) := by
  apply ByteArray.ext
  apply Array.toList_inj.1
  simp [bs, List.extract_eq_take_drop]
theorem tag_no10 {s : ByteArray} (h : tagN s = true) : (10 : UInt8) ∉ s.data.toList := by
  obtain ⟨l, rfl⟩ := of_bs s
  rw [bs_list]
  unfold tagN at h
  rw [bs_append] at h
  have hnh : headB (bs (tagsW ++ l)) = false := by
    unfold headB pre
    have h2 : (((bs (tagsW ++ l)).extract 0 headS.size).toList == headS.toList) = false := by
      rw [bs_extract, ByteArray.toList_eq, ByteArray.toList_eq, bs_list]
      rfl
    rw [h2]; simp
  rw [hnh, Bool.false_or] at h
  unfold tagB at h
  rw [Bool.and_eq_true] at h
  have h3 := h.2
  unfold okRef at h3
  simp only [Bool.and_eq_true, List.all_eq_true] at h3
  have he : ((bs (tagsW ++ l)).extract 5 (bs (tagsW ++ l)).size).data.toList = l := by
    rw [bs_extract, bs_list, bs_size]
    have e1 : (tagsW ++ l).drop 5 = l := rfl
    have e2 : (tagsW ++ l).length - 5 = l.length := by simp [tagsW]
    rw [e1, e2, List.take_length]
  intro hm
  have := h3.2.2 10 (by rw [he]; exact hm)
  revert this
  decide
end Ob
end Go.Proofs.YtmjffngpaoaflaaGreatDoor
