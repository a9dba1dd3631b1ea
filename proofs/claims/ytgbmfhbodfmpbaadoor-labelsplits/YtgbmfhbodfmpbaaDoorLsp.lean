/- The names of a path: plain readings, one by pieces and one letter by letter, are one. -/
import Derived.Test.YtgbmfhbodfmpbaaDoorLbk
import Derived.Lib.SplitLaws
import Derived.Lib.Join
namespace Go.Proofs.YtgbmfhbodfmpbaaDoor
open Go.Lib
/-- The parts of a text that stand between slashes. -/
def segs : List UInt8 → List UInt8 → List (List UInt8)
  | acc, [] => [acc]
  | acc, c :: r => if c = 47 then acc :: segs [] r else segs (acc ++ [c]) r
theorem segs_none (l : List UInt8) : ∀ acc, 47 ∉ l → segs acc l = [acc ++ l] := by
  induction l with
  | nil => intro acc _; simp [segs]
  | cons c r ih =>
    intro acc h
    have hc : c ≠ 47 := fun e => h (by simp [e])
    rw [segs, if_neg hc, ih _ (fun e => h (by simp [e]))]
    simp
theorem segs_some (a r : List UInt8) : ∀ acc, 47 ∉ a → segs acc (a ++ 47 :: r) = (acc ++ a) :: segs [] r := by
  induction a with
  | nil => intro acc _; simp [segs]
  | cons c a ih =>
    intro acc h
    have hc : c ≠ 47 := fun e => h (by simp [e])
    rw [List.cons_append, segs, if_neg hc, ih _ (fun e => h (by simp [e]))]
    simp
theorem index_slash_none (l : List UInt8) (h : 47 ∉ l) : index l [47] = -1 := by
  induction l with
  | nil => rfl
  | cons c r ih =>
    have hc : c ≠ 47 := fun e => h (by simp [e])
    have hr := ih (fun e => h (by simp [e]))
    rw [index, hr]
    have : ([47] : List UInt8).isPrefixOf (c :: r) = false := by simp [List.isPrefixOf]; exact fun e => hc e.symm
    simp [this]
theorem index_slash_some (a r : List UInt8) (h : 47 ∉ a) : index (a ++ 47 :: r) [47] = (a.length : Nat) := by
  induction a with
  | nil => simp [index, List.isPrefixOf]
  | cons c a ih =>
    have hc : c ≠ 47 := fun e => h (by simp [e])
    have hr := ih (fun e => h (by simp [e]))
    rw [List.cons_append, index, hr]
    have : ([47] : List UInt8).isPrefixOf (c :: (a ++ 47 :: r)) = false := by simp [List.isPrefixOf]; exact fun e => hc e.symm
    rw [this]
    have h2 : ((a.length : Nat) : Int) ≠ -1 := by omega
    simp [h2]
theorem cut_slash (l : List UInt8) : 47 ∉ l ∨ ∃ a r, l = a ++ 47 :: r ∧ 47 ∉ a := by
  induction l with
  | nil => exact .inl (by simp)
  | cons c l ih =>
    by_cases hc : c = 47
    · exact .inr ⟨[], l, by simp [hc], by simp⟩
    · rcases ih with h | ⟨a, r, e, ha⟩
      · exact .inl (by simp [h]; exact fun e => hc e.symm)
      · exact .inr ⟨c :: a, r, by simp [e], by simp [ha]; exact fun e => hc e.symm⟩
theorem split_segs : ∀ (n : Nat) (l : List UInt8), l.length ≤ n → splitK [47] 0 (count l [47]) l = segs [] l := by
  intro n
  induction n with
  | zero =>
    intro l hl
    obtain rfl : l = [] := List.length_eq_zero_iff.1 (by omega)
    decide
  | succ n ih =>
    intro l hl
    rcases cut_slash l with h | ⟨a, r, rfl, ha⟩
    · rw [count_miss (index_slash_none l h), splitK, segs_none _ _ h]
      simp
    · have hi := index_slash_some a r ha
      have hne : ¬ ((a.length : Nat) : Int) = -1 := by omega
      rw [count_hit (by simp) hi, Nat.add_comm, splitK, hi]
      simp only [beq_iff_eq, hne, if_false, Int.toNat_natCast, List.length_cons, List.length_nil, Nat.add_zero]
      have e1 : (a ++ 47 :: r).take a.length = a := by simp
      have e2 : (a ++ 47 :: r).drop (a.length + (0 + 1)) = r := by simp [List.drop_append]
      rw [e1, e2, ih r (by simp at hl; omega), segs_some _ _ _ ha]
      simp
theorem join_segs : ∀ (n : Nat) (l : List UInt8), l.length ≤ n → join (segs [] l) [47] = l := by
  intro n
  induction n with
  | zero =>
    intro l hl
    obtain rfl : l = [] := List.length_eq_zero_iff.1 (by omega)
    decide
  | succ n ih =>
    intro l hl
    rcases cut_slash l with h | ⟨a, r, rfl, ha⟩
    · rw [segs_none _ _ h, join_one]; simp
    · have hr := ih r (by simp at hl; omega)
      rw [segs_some _ _ _ ha]
      rcases hs : segs [] r with _ | ⟨x, t⟩
      · rw [hs] at hr
        simp [join, List.intercalate] at hr
        exfalso
        subst hr
        simp [segs] at hs
      · rw [hs] at hr
        rw [join_cons] at hr ⊢
        rw [← hr]
        simp [joinTail]
/-- The parts of a text, as texts. -/
def pieces (p : ByteArray) : List ByteArray := (segs [] p.data.toList).map bs
theorem pieces_lists (p : ByteArray) : (pieces p).map (·.data.toList) = segs [] p.data.toList := by
  unfold pieces
  rw [List.map_map]
  have : ((fun x : ByteArray => x.data.toList) ∘ bs) = id := by funext l; simp [bs]
  rw [this, List.map_id]
theorem lists_inj : ∀ a b : List ByteArray, a.map (·.data.toList) = b.map (·.data.toList) → a = b
  | [], [], _ => rfl
  | [], y :: b, h => by simp at h
  | x :: a, [], h => by simp at h
  | x :: a, y :: b, h => by
    simp only [List.map_cons, List.cons.injEq] at h
    have e : x = y := by rw [← bs_data x, h.1, bs_data]
    rw [e, lists_inj a b h.2]
theorem split_pieces (p : ByteArray) : splitB ⟨#[47]⟩ 0 (countB p ⟨#[47]⟩) p = pieces p := by
  apply lists_inj
  rw [pieces_lists]
  have h := splitB_data ⟨#[47]⟩ 0 (countB p ⟨#[47]⟩) p
  rw [h]
  exact split_segs _ _ (Nat.le_refl _)
theorem pieces_len (p : ByteArray) : (pieces p).length = countB p ⟨#[47]⟩ + 1 := by
  rw [← split_pieces]
  exact splitB_all ⟨#[47]⟩ (by decide) 0 _ p rfl
theorem pieces_join (p : ByteArray) : join ((pieces p).map (·.data.toList)) [47] = p.data.toList := by
  rw [pieces_lists]
  exact join_segs _ _ (Nat.le_refl _)
theorem segs_len : ∀ (l acc : List UInt8), (segs acc l).length ≤ l.length + 1
  | [], acc => by simp [segs]
  | c :: r, acc => by
    rw [segs]
    split
    · have := segs_len r []
      simp
      omega
    · have := segs_len r (acc ++ [c])
      simp
      omega
theorem pieces_few (p : ByteArray) : (pieces p).length ≤ p.size + 1 := by
  have := segs_len p.data.toList []
  rw [str_len] at this
  simp [pieces]
  exact this
theorem segs_size : ∀ (l acc : List UInt8), ∀ x ∈ segs acc l, x.length ≤ acc.length + l.length
  | [], acc => by intro x hx; simp [segs] at hx; subst hx; simp
  | c :: r, acc => by
    intro x hx
    rw [segs] at hx
    split at hx
    · rcases List.mem_cons.1 hx with rfl | hx
      · omega
      · have := segs_size r [] x hx
        simp at this ⊢
        omega
    · have := segs_size r (acc ++ [c]) x hx
      simp at this ⊢
      omega
theorem pieces_size (p x : ByteArray) (h : x ∈ pieces p) : x.size ≤ p.size := by
  unfold pieces at h
  obtain ⟨l, hl, rfl⟩ := List.mem_map.1 h
  have := segs_size _ _ l hl
  rw [str_len] at this
  rw [bs_size]
  simpa using this
/-- Why a path is none, or 0. -/
def splE (p : ByteArray) : Int := if 64 < (pieces p).length then 3 else if (pieces p).all Lb.nameB = true then 0 else 50
end Go.Proofs.YtgbmfhbodfmpbaaDoor
