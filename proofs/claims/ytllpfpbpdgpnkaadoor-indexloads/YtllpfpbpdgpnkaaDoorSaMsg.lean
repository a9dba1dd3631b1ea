/- A state of the sums and the bytes that it has taken in: plain lists and functions. -/
import Derived.Test.YtllpfpbpdgpnkaaDoorSaSha
namespace Go.Proofs.YtllpfpbpdgpnkaaDoor.Sa
namespace Sha
theorem bePart_congr {b c : Nat → UInt8} (i : Nat) (hi : i < 16) (h : ∀ k, k < 64 → b k = c k) : ∀ j, j ≤ 4 → bePart b i j = bePart c i j
  | 0, _ => rfl
  | j + 1, hj => by rw [bePart, bePart, bePart_congr i hi h j (by omega), h _ (by omega)]
theorem first_congr {b c : Nat → UInt8} (h : ∀ k, k < 64 → b k = c k) : first b 16 = first c 16 := by
  funext k
  simp only [first]
  by_cases hk : k < 16
  · simp only [hk, if_true]; exact bePart_congr k hk h 4 (Nat.le_refl _)
  · simp only [hk, if_false]
theorem ext_congr {b c : Nat → UInt8} (h : ∀ k, k < 64 → b k = c k) : ∀ n, ext b n = ext c n
  | 0 => first_congr h
  | n + 1 => by rw [ext, ext, ext_congr h n]
theorem mix_congr {b c : Nat → UInt8} (w : Nat → BitVec 32) (h : ∀ k, k < 64 → b k = c k) : mix w b = mix w c := by
  rw [mix, mix, plan, plan, ext_congr h]
def fn (M : List UInt8) (k : Nat) : UInt8 := M.getD k 0
def hashed (f : Nat → UInt8) : Nat → Nat → BitVec 32
  | 0 => init
  | j + 1 => mix (hashed f j) (fun k => f (64 * j + k))
theorem hashed_congr {f g : Nat → UInt8} : ∀ j, (∀ k, k < 64 * j → f k = g k) → hashed f j = hashed g j
  | 0, _ => rfl
  | j + 1, h => by
    rw [hashed, hashed, hashed_congr j (fun k hk => h k (by omega))]
    exact mix_congr _ (fun k hk => h _ (by omega))
def over (b : Nat → UInt8) (o : Nat) (l : List UInt8) : Nat → UInt8 := fun k => if o ≤ k ∧ k < o + l.length then l.getD (k - o) 0 else b k
structure Rep (M : List UInt8) (h : Nat → BitVec 32) (b : Nat → UInt8) : Prop where
  words : h = hashed (fn M) (M.length / 64)
  block : ∀ k, k < M.length % 64 → b k = fn M (64 * (M.length / 64) + k)
theorem fn_left (M N : List UInt8) (k : Nat) (h : k < M.length) : fn (M ++ N) k = fn M k := by
  simp [fn, List.getD, List.getElem?_append_left h]
theorem fn_right (M N : List UInt8) (k : Nat) (h : M.length ≤ k) : fn (M ++ N) k = fn N (k - M.length) := by
  simp [fn, List.getD, List.getElem?_append_right h]
theorem over_fn {M l : List UInt8} {h : Nat → BitVec 32} {b : Nat → UInt8} (hr : Rep M h b) (k : Nat) (hk : k < M.length % 64 + l.length) :
    over b (M.length % 64) l k = fn (M ++ l) (64 * (M.length / 64) + k) := by
  unfold over
  by_cases h1 : M.length % 64 ≤ k ∧ k < M.length % 64 + l.length
  · rw [if_pos h1, fn_right _ _ _ (by omega), fn]
    congr 1
    omega
  · rw [if_neg h1, fn_left _ _ _ (by omega), hr.block k (by omega)]
theorem Rep.part {M l : List UInt8} {h : Nat → BitVec 32} {b : Nat → UInt8} (hr : Rep M h b) (hl : M.length % 64 + l.length < 64) : Rep (M ++ l) h (over b (M.length % 64) l) := by
  have e : (M ++ l).length / 64 = M.length / 64 := by simp; omega
  constructor
  · rw [e, hr.words]
    exact hashed_congr _ (fun k hk => (fn_left _ _ _ (by omega)).symm)
  · intro k hk
    rw [e]
    exact over_fn hr k (by simp at hk; omega)
theorem Rep.full {M l : List UInt8} {h : Nat → BitVec 32} {b : Nat → UInt8} (hr : Rep M h b) (hl : M.length % 64 + l.length = 64) : Rep (M ++ l) (mix h (over b (M.length % 64) l)) (over b (M.length % 64) l) := by
  have e : (M ++ l).length / 64 = M.length / 64 + 1 := by simp; omega
  constructor
  · rw [e, hashed, hr.words, hashed_congr (f := fn (M ++ l)) (g := fn M) _ (fun k hk => fn_left _ _ _ (by omega))]
    refine mix_congr _ (fun k hk => ?_)
    have := over_fn hr (l := l) k (by omega)
    exact this
  · intro k hk
    simp at hk
    omega
theorem Rep.start (b : Nat → UInt8) : Rep [] init b := ⟨rfl, fun k hk => by simp at hk⟩
/-! The state's row in memory. -/
def stL (h : Nat → BitVec 32) (b : Nat → UInt8) (n : Nat) : List Value := wordsL 8 h ++ (bytesL 64 b ++ [.int .u64 (n : Int)])
def stA (h : Nat → BitVec 32) (b : Nat → UInt8) (n : Nat) : Array Value := (stL h b n).toArray
theorem wordsL_len (n : Nat) (h : Nat → BitVec 32) : (wordsL n h).length = n := by simp [wordsL]
theorem bytesL_len (n : Nat) (b : Nat → UInt8) : (bytesL n b).length = n := by simp [bytesL]
theorem stL_len (h : Nat → BitVec 32) (b : Nat → UInt8) (n : Nat) : (stL h b n).length = 73 := by simp [stL, wordsL_len, bytesL_len]
theorem stL_get (h : Nat → BitVec 32) (b : Nat → UInt8) (n k : Nat) :
    (stL h b n)[k]? = if k < 8 then some (word (h k)) else if k < 72 then some (byte (b (k - 8))) else if k = 72 then some (.int .u64 (n : Int)) else none := by
  unfold stL
  by_cases h1 : k < 8
  · rw [List.getElem?_append_left (by rw [wordsL_len]; exact h1), if_pos h1]
    simp [wordsL, h1]
  · rw [List.getElem?_append_right (by rw [wordsL_len]; omega), if_neg h1, wordsL_len]
    by_cases h2 : k < 72
    · rw [List.getElem?_append_left (by rw [bytesL_len]; omega), if_pos h2]
      simp [bytesL, show k - 8 < 64 by omega]
    · rw [List.getElem?_append_right (by rw [bytesL_len]; omega), if_neg h2, bytesL_len]
      by_cases h3 : k = 72
      · subst h3; simp
      · rw [if_neg h3]; simp; omega
theorem stA_at (h : Nat → BitVec 32) (b : Nat → UInt8) (n k : Nat) : (stA h b n)[k]? = if k < 8 then some (word (h k)) else if k < 72 then some (byte (b (k - 8))) else if k = 72 then some (.int .u64 (n : Int)) else none := by
  rw [stA, List.getElem?_toArray, stL_get]
theorem splice_get {α : Type} (L cs : List α) (o k : Nat) (h : o + cs.length ≤ L.length) :
    (splice L o cs)[k]? = if k < o then L[k]? else if k < o + cs.length then cs[k - o]? else L[k]? := by
  unfold splice
  by_cases h1 : k < o
  · rw [if_pos h1, List.getElem?_append_left (by simp; omega), List.getElem?_take, if_pos h1]
  · rw [if_neg h1, List.getElem?_append_right (by simp; omega)]
    have e : (List.take o L).length = o := by simp; omega
    rw [e]
    by_cases h2 : k < o + cs.length
    · rw [if_pos h2, List.getElem?_append_left (by omega)]
    · rw [if_neg h2, List.getElem?_append_right (by omega), List.getElem?_drop]
      congr 1
      omega
theorem stL_bytes (h : Nat → BitVec 32) (b : Nat → UInt8) (n o : Nat) (l : List UInt8) (ho : o + l.length ≤ 64) :
    splice (stL h b n) (8 + o) (l.map byte) = stL h (over b o l) n := by
  apply List.ext_getElem?
  intro k
  rw [splice_get _ _ _ _ (by rw [stL_len]; simp; omega), stL_get, stL_get]
  simp only [List.length_map]
  by_cases h1 : k < 8 + o
  · rw [if_pos h1]
    by_cases h2 : k < 8
    · simp [h2]
    · have : ¬ (o ≤ k - 8 ∧ k - 8 < o + l.length) := by omega
      simp only [h2, if_false, over, this]
  · rw [if_neg h1]
    by_cases h3 : k < 8 + o + l.length
    · have h4 : ¬ k < 8 := by omega
      have h5 : k < 72 := by omega
      have h6 : o ≤ k - 8 ∧ k - 8 < o + l.length := by omega
      rw [if_pos h3, if_neg h4, if_pos h5]
      simp only [over, h6]
      rw [List.getElem?_map, show k - (8 + o) = k - 8 - o by omega, List.getElem?_eq_getElem (show k - 8 - o < l.length by omega)]
      simp [List.getD, List.getElem?_eq_getElem (show k - 8 - o < l.length by omega)]
    · rw [if_neg h3]
      by_cases h4 : k < 8
      · omega
      · have : ¬ (o ≤ k - 8 ∧ k - 8 < o + l.length) := by omega
        simp only [h4, if_false, over, this]
theorem stA_len_set (h : Nat → BitVec 32) (b : Nat → UInt8) (n m : Nat) : (stA h b n).setIfInBounds 72 (.int .u64 (m : Int)) = stA h b m := by
  apply Array.ext_getElem?
  intro k
  rw [Array.getElem?_setIfInBounds, stA_at, stA_at]
  by_cases hk : 72 = k
  · subst hk
    rw [if_pos rfl]
    simp [stA, stL_len]
  · rw [if_neg hk]
    have : ¬ k = 72 := fun e => hk e.symm
    simp only [this, if_false]
theorem stL_words (h g : Nat → BitVec 32) (b : Nat → UInt8) (n : Nat) : splice (stL h b n) 0 (wordsL 8 g) = stL g b n := by
  apply List.ext_getElem?
  intro k
  rw [splice_get _ _ _ _ (by rw [stL_len, wordsL_len]; omega), stL_get, stL_get, wordsL_len]
  by_cases h1 : k < 8
  · simp [h1, wordsL]
  · simp [h1]
end Sha
end Go.Proofs.YtllpfpbpdgpnkaaDoor.Sa
