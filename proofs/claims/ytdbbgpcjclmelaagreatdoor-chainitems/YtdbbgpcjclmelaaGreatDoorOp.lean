/- Objects' bytes: plain readings. -/
import Derived.Test.YtdbbgpcjclmelaaGreatDoorCbDigp
namespace Go.Proofs.YtdbbgpcjclmelaaGreatDoor
namespace Ob
open Go.RowKit
theorem hideIt {p : Prop} (h : p) : Hid p := h
def bs (l : List UInt8) : ByteArray := ⟨l.toArray⟩
theorem bs_data (s : ByteArray) : bs s.data.toList = s := by cases s; simp [bs]
theorem bs_list (l : List UInt8) : (bs l).data.toList = l := by simp [bs]
theorem bs_size (l : List UInt8) : (bs l).size = l.length := by simp [bs, ByteArray.size]
theorem str_len (s : ByteArray) : s.data.toList.length = s.size := by rw [Array.length_toList]; rfl
theorem cat_data (a b : ByteArray) : (a ++ b).data.toList = a.data.toList ++ b.data.toList := by rw [ByteArray.data_append, Array.toList_append]
theorem bs_append (a b : List UInt8) : bs a ++ bs b = bs (a ++ b) := by
  rw [← bs_data (bs a ++ bs b), cat_data, bs_list, bs_list]
theorem bs_inj {a b : List UInt8} (h : bs a = bs b) : a = b := by
  have := congrArg (fun s : ByteArray => s.data.toList) h
  simpa [bs_list] using this
theorem below_step {B : Nat} {w a b : World} (h : Below B w a) (hB : B ≤ w.heap.size) (k : Below a.heap.size a b) : Below B w b := h.trans (k.mono (Nat.le_trans hB h.size))
theorem below2 {w a b : World} (h : Below w.heap.size w a) (k : Below a.heap.size a b) : Below w.heap.size w b := below_step h (Nat.le_refl _) k
def blobW : List UInt8 := [98, 108, 111, 98]
def treeW : List UInt8 := [116, 114, 101, 101]
def commitW : List UInt8 := [99, 111, 109, 109, 105, 116]
def tagW : List UInt8 := [116, 97, 103]
/-- The word of a kind; no bytes, if it is none. -/
def kw (k : Int) : List UInt8 := if k = 1 then blobW else if k = 2 then treeW else if k = 3 then commitW else if k = 4 then tagW else []
/-- The kind of a word; 0, if it is of none. -/
def kn (w : List UInt8) : Int := if w = blobW then 1 else if w = treeW then 2 else if w = commitW then 3 else if w = tagW then 4 else 0
theorem kind_cases (k : Int) : k = 1 ∨ k = 2 ∨ k = 3 ∨ k = 4 ∨ (k ≠ 1 ∧ k ≠ 2 ∧ k ≠ 3 ∧ k ≠ 4) := by omega
theorem kw_none {k : Int} (h : k ≠ 1 ∧ k ≠ 2 ∧ k ≠ 3 ∧ k ≠ 4) : kw k = [] := by
  rw [kw, if_neg h.1, if_neg h.2.1, if_neg h.2.2.1, if_neg h.2.2.2]
theorem kw_len (k : Int) : (kw k).length ≤ 6 := by
  rcases kind_cases k with rfl | rfl | rfl | rfl | h
  · decide
  · decide
  · decide
  · decide
  · rw [kw_none h]; decide
theorem kn_kw (k : Int) (h : 1 ≤ k ∧ k ≤ 4) : kn (kw k) = k := by
  rcases kind_cases k with rfl | rfl | rfl | rfl | h'
  · decide
  · decide
  · decide
  · decide
  · omega
theorem kw_no0 (k : Int) : (0 : UInt8) ∉ kw k := by
  rcases kind_cases k with rfl | rfl | rfl | rfl | h'
  · decide
  · decide
  · decide
  · decide
  · rw [kw_none h']; decide
theorem kw_no32 (k : Int) : (32 : UInt8) ∉ kw k := by
  rcases kind_cases k with rfl | rfl | rfl | rfl | h'
  · decide
  · decide
  · decide
  · decide
  · rw [kw_none h']; decide
/-- What stands ahead of a byte's first place, and behind it. -/
def cutc (c : UInt8) : List UInt8 → Option (List UInt8 × List UInt8)
  | [] => none
  | x :: r => if x = c then some ([], r) else (cutc c r).map fun p => (x :: p.1, p.2)
theorem cutc_none (c : UInt8) : ∀ s, cutc c s = none ↔ c ∉ s
  | [] => by simp [cutc]
  | x :: r => by
    rw [cutc]
    by_cases h : x = c
    · simp [h]
    · rw [if_neg h, Option.map_eq_none_iff, cutc_none c r]
      simp only [List.mem_cons, not_or]
      exact ⟨fun e => ⟨fun q => h q.symm, e⟩, fun e => e.2⟩
theorem cutc_some (c : UInt8) : ∀ (s h r : List UInt8), cutc c s = some (h, r) → s = h ++ c :: r ∧ c ∉ h
  | [], h, r, e => by simp [cutc] at e
  | x :: t, h, r, e => by
    rw [cutc] at e
    by_cases hx : x = c
    · rw [if_pos hx] at e
      simp only [Option.some.injEq, Prod.mk.injEq] at e
      obtain ⟨rfl, rfl⟩ := e
      exact ⟨by rw [hx]; rfl, by simp⟩
    · rw [if_neg hx, Option.map_eq_some_iff] at e
      obtain ⟨⟨a, b⟩, e1, e2⟩ := e
      simp only [Prod.mk.injEq] at e2
      obtain ⟨rfl, rfl⟩ := e2
      obtain ⟨h1, h2⟩ := cutc_some c t a b e1
      refine ⟨by rw [h1]; rfl, ?_⟩
      simp only [List.mem_cons, not_or]
      exact ⟨fun q => hx q.symm, h2⟩
theorem cutc_mk (c : UInt8) : ∀ (h r : List UInt8), c ∉ h → cutc c (h ++ c :: r) = some (h, r)
  | [], r, _ => by simp [cutc]
  | x :: t, r, hn => by
    have hx : ¬ x = c := fun e => hn (by simp [e])
    rw [List.cons_append, cutc, if_neg hx, cutc_mk c t r (fun e => hn (by simp [e]))]
    rfl
/-- An object's bytes. -/
def rawL (k : Int) (b : List UInt8) : List UInt8 := kw k ++ 32 :: (Lib.decDigits b.length ++ 0 :: b)
/-- What Open answers behind the digits' reading. -/
def opn3 (k : Int) (body : List UInt8) : Option Nat → Int × List UInt8 × Int
  | none => (0, [], 6)
  | some n => if 262144 < n then (0, [], 3) else if body.length < n then (0, [], 4) else if n < body.length then (0, [], 5) else (k, body, 0)
/-- The kind and the body of an object's bytes; the error. -/
def opn (L : List UInt8) : Int × List UInt8 × Int := match cutc 0 L with
  | none => (0, [], 6)
  | some (h, body) => match cutc 32 h with
    | none => (0, [], 6)
    | some (wd, d) => if kn wd = 0 then (0, [], 70) else opn3 (kn wd) body (Cb.Dd.und d)
theorem dec_no (c : UInt8) (hc : c.toNat < 48) (n : Nat) : c ∉ Lib.decDigits n := fun h => by
  have := Cb.Dd.dec_all n c h
  unfold Cb.Dd.isD at this
  omega
theorem opn_raw (k : Int) (h : 1 ≤ k ∧ k ≤ 4) (b : List UInt8) (hb : b.length ≤ 1000000) : opn (rawL k b) = if 262144 < b.length then (0, [], 3) else (k, b, 0) := by
  have e : rawL k b = (kw k ++ 32 :: Lib.decDigits b.length) ++ 0 :: b := by simp [rawL]
  have n0 : (0 : UInt8) ∉ kw k ++ 32 :: Lib.decDigits b.length := by
    simp only [List.mem_append, List.mem_cons, not_or]
    exact ⟨kw_no0 k, by decide, dec_no 0 (by decide) _⟩
  have hk : ¬ kn (kw k) = 0 := by rw [kn_kw k h]; omega
  rw [opn, e, cutc_mk 0 _ _ n0]
  simp only
  rw [cutc_mk 32 _ _ (kw_no32 k)]
  simp only
  rw [if_neg hk, Cb.Dd.und_dec _ (by unfold Cb.Dd.M; omega), opn3]
  by_cases hq : 262144 < b.length
  · rw [if_pos hq, if_pos hq]
  · rw [if_neg hq, if_neg (by omega), if_neg (by omega), if_neg hq, kn_kw k h]
theorem raw_inj {k l : Int} {a b : List UInt8} (hk : 1 ≤ k ∧ k ≤ 4) (hl : 1 ≤ l ∧ l ≤ 4) (ha : a.length ≤ 262144) (hb : b.length ≤ 262144) (e : rawL k a = rawL l b) : k = l ∧ a = b := by
  have h1 := opn_raw k hk a (by omega)
  have h2 := opn_raw l hl b (by omega)
  rw [e, h2, if_neg (by omega), if_neg (by omega)] at h1
  simp only [Prod.mk.injEq] at h1
  exact ⟨h1.1.symm, h1.2.1.symm⟩
theorem nd_dec (n : Nat) (h : n ≤ 1000000) : (Lib.decDigits n).length ≤ 20 := by
  by_cases h1 : 1 ≤ n
  · rw [Lib.decDigits_length]
    exact Cb.nd20 n h1 (by omega)
  · obtain rfl : n = 0 := by omega
    rw [Lib.decDigits_one (by omega)]
    simp
theorem raw_len (k : Int) (b : List UInt8) (h : b.length ≤ 1000000) : (rawL k b).length ≤ b.length + 28 := by
  have h1 := kw_len k
  have h2 := nd_dec b.length h
  simp [rawL]
  omega
theorem of_bs (b : ByteArray) : ∃ l, b = bs l := ⟨b.data.toList, (bs_data b).symm⟩
theorem rawS_eq (k : Int) (b : ByteArray) : bs (rawL k b.data.toList) = bs (kw k) ++ ⟨#[32]⟩ ++ bs (Lib.decDigits b.size) ++ ⟨#[0]⟩ ++ b := by
  obtain ⟨l, rfl⟩ := of_bs b
  rw [bs_list, bs_size, show (⟨#[32]⟩ : ByteArray) = bs [32] from rfl, show (⟨#[0]⟩ : ByteArray) = bs [0] from rfl, bs_append, bs_append, bs_append, bs_append, rawL]
  simp
/-- What Raw answers. -/
def rawR (k : Int) (b : List UInt8) : List UInt8 × Int := if 1 ≤ k ∧ k ≤ 4 then (if 262144 < b.length then ([], 3) else (rawL k b, 0)) else ([], 70)
theorem lit_eq (L K : List UInt8) : ((bs L).toList == K) = decide (L = K) := by
  rw [ByteArray.toList_eq, bs_list]
  by_cases h : L = K
  · rw [h]; simp
  · rw [decide_eq_false h]; simpa using h
end Ob
end Go.Proofs.YtdbbgpcjclmelaaGreatDoor
