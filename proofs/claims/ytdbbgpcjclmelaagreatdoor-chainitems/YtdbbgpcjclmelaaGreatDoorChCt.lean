/- Chains: objects as items are objects that are made of one another; the waking test's two blobs: plain. -/
import Derived.Test.YtdbbgpcjclmelaaGreatDoorChCs
import Derived.Test.YtdbbgpcjclmelaaGreatDoorSaAll
namespace Go.Proofs.YtdbbgpcjclmelaaGreatDoor.Ch
open Cb Go.RowKit Go.Shelf Go.Maps
section
variable {raws : List ByteArray} {bases : List Int}
theorem itms_fst {i : Nat} : ∀ {n : Nat}, i < n → (itms raws bases n).1[i]? = some (stepI raws bases (itms raws bases i).2 i).1
  | 0, h => by omega
  | n + 1, h => by
    have hl := (itms_len raws bases n).1
    rw [itms]
    simp only
    by_cases e : i = n
    · subst e
      rw [List.getElem?_append_right (by omega), hl, Nat.sub_self]
      rfl
    · rw [List.getElem?_append_left (by omega)]
      exact itms_fst (by omega)
theorem itms_snd {i : Nat} : ∀ {n : Nat}, i < n → (itms raws bases n).2[i]? = some (stepI raws bases (itms raws bases i).2 i).2
  | 0, h => by omega
  | n + 1, h => by
    have hl := (itms_len raws bases n).2
    rw [itms]
    simp only
    by_cases e : i = n
    · subst e
      rw [List.getElem?_append_right (by omega), hl, Nat.sub_self]
      rfl
    · rw [List.getElem?_append_left (by omega)]
      exact itms_snd (by omega)
/-- Of which one the i-th is made, and how far it is from a whole one. -/
def parOf (raws : List ByteArray) (bases : List Int) (i : Nat) : Option Nat := match bof bases i with
  | some k => if (itms raws bases i).2.getD k 0 < 12 then some k else none
  | none => none
def dpOf (raws : List ByteArray) (bases : List Int) (i : Nat) : Nat := (stepI raws bases (itms raws bases i).2 i).2
theorem par_none {i : Nat} (h : parOf raws bases i = none) : stepI raws bases (itms raws bases i).2 i = (⟨⟨#[]⟩, raws.getD i ⟨#[]⟩, 0⟩, 0) := by
  unfold parOf at h
  unfold stepI
  cases hb : bof bases i with
  | none => rfl
  | some k =>
    rw [hb] at h
    simp only at h ⊢
    by_cases g : (itms raws bases i).2.getD k 0 < 12
    · rw [if_pos g] at h
      cases h
    · rw [if_neg g]
theorem par_some {i k : Nat} (h : parOf raws bases i = some k) : k < i ∧ (itms raws bases i).2.getD k 0 < 12 ∧ stepI raws bases (itms raws bases i).2 i = (⟨shaB (raws.getD k ⟨#[]⟩), makeB (raws.getD k ⟨#[]⟩) (raws.getD i ⟨#[]⟩), 0⟩, (itms raws bases i).2.getD k 0 + 1) := by
  unfold parOf at h
  cases hb : bof bases i with
  | none => rw [hb] at h; cases h
  | some j =>
    rw [hb] at h
    simp only at h
    by_cases g : (itms raws bases i).2.getD j 0 < 12
    · rw [if_pos g] at h
      cases h
      refine ⟨(bof_lt hb).1, g, ?_⟩
      unfold stepI
      rw [hb]
      simp only
      rw [if_pos g]
    · rw [if_neg g] at h
      cases h
theorem getD_at {l : List ByteArray} {i : Nat} {r : ByteArray} (h : l[i]? = some r) : l.getD i ⟨#[]⟩ = r := by rw [List.getD, h]; rfl
theorem fst_itms (hap : ∀ (i j : Nat) (a b : ByteArray), raws[i]? = some a → raws[j]? = some b → shaB a = shaB b → i = j) : Fst raws (parOf raws bases) (itms raws bases raws.length).1 := by
  refine ⟨(itms_len _ _ _).1, fun i k h => (par_some h).1, fun i x r hx hr hp => ?_, fun i k x r b hx hr hb hp => ?_, hap⟩
  · have hi := (List.getElem?_eq_some_iff.1 hr).1
    rw [itms_fst hi, par_none hp, getD_at hr] at hx
    cases hx
    exact ⟨rfl, rfl⟩
  · have hi := (List.getElem?_eq_some_iff.1 hr).1
    rw [itms_fst hi, (par_some hp).2.2, getD_at hr, getD_at hb] at hx
    cases hx
    exact ⟨rfl, rfl⟩
theorem dp_none {i : Nat} (h : parOf raws bases i = none) : dpOf raws bases i = 0 := by rw [dpOf, par_none h]
theorem dp_some {i k : Nat} (h : parOf raws bases i = some k) : dpOf raws bases i = dpOf raws bases k + 1 := by
  obtain ⟨h1, _, h3⟩ := par_some h
  rw [dpOf, h3]
  show (itms raws bases i).2.getD k 0 + 1 = _
  rw [List.getD_eq_getElem?_getD, itms_snd h1]
  rfl
theorem dp_le {i : Nat} : dpOf raws bases i ≤ 12 := by
  cases h : parOf raws bases i with
  | none => rw [dp_none h]; omega
  | some k =>
    obtain ⟨_, h2, h3⟩ := par_some h
    rw [dpOf, h3]
    simp only
    omega
end
def aw0 : ByteArray := ⟨#[48, 49, 50, 51, 52, 53, 54, 55, 56, 57, 97, 98, 99, 100, 101, 102, 48, 49, 50, 51, 52, 53, 54, 55, 56, 57, 65, 66, 67, 68, 69, 70]⟩
def aw1 : ByteArray := ⟨#[48, 49, 50, 51, 52, 53, 54, 55, 56, 57, 97, 98, 99, 100, 101, 102, 48, 49, 50, 51, 52, 53, 54, 55, 56, 57, 65, 66, 67, 68, 69, 70, 33]⟩
def awX : ByteArray := ⟨#[98, 108, 111, 98, 32, 51, 50, 0, 48, 49, 50, 51, 52, 53, 54, 55, 56, 57, 97, 98, 99, 100, 101, 102, 48, 49, 50, 51, 52, 53, 54, 55, 56, 57, 65, 66, 67, 68, 69, 70]⟩
def awY : ByteArray := ⟨#[98, 108, 111, 98, 32, 51, 51, 0, 48, 49, 50, 51, 52, 53, 54, 55, 56, 57, 97, 98, 99, 100, 101, 102, 48, 49, 50, 51, 52, 53, 54, 55, 56, 57, 65, 66, 67, 68, 69, 70, 33]⟩
theorem awX_is : blb aw0 = awX := by decide +kernel
theorem awY_is : blb aw1 = awY := by decide +kernel
theorem aw_ne : awX ≠ awY := by decide
theorem aw_blobs : blobs 2 [] [aw0, aw1] = [awX, awY] := by
  have h1 : has [] (blb aw0) = false := rfl
  have h2 : has ([] ++ [blb aw0]) (blb aw1) = false := by
    rw [awX_is, awY_is]
    simp [has, aw_ne]
  rw [blobs_step (by simp), if_neg (by rw [h1]; simp), blobs_step (by simp), if_neg (by rw [h2]; simp), blobs, awX_is, awY_is]
  rfl
theorem aw_shaX : shaB awX = Sa.Sha.cxSum := Sa.Sha.cx_is
theorem aw_shaY : shaB awY = Sa.Sha.cySum := Sa.Sha.cy_is
theorem aw_sha_ne : shaB awX ≠ shaB awY := by
  rw [aw_shaX, aw_shaY]
  decide
theorem aw_apart : ∀ (i j : Nat) (a b : ByteArray), [awX, awY][i]? = some a → [awX, awY][j]? = some b → shaB a = shaB b → i = j := by
  intro i j a b hi hj h
  have hi2 := (List.getElem?_eq_some_iff.1 hi).1
  have hj2 := (List.getElem?_eq_some_iff.1 hj).1
  simp only [List.length_cons, List.length_nil] at hi2 hj2
  rcases (by omega : (i = 0 ∨ i = 1) ∧ (j = 0 ∨ j = 1)) with ⟨rfl | rfl, rfl | rfl⟩
  · rfl
  · cases hi
    cases hj
    exact absurd h aw_sha_ne
  · cases hi
    cases hj
    exact absurd h.symm aw_sha_ne
  · rfl
theorem aw_base : ((itms [awX, awY] [-1, 0] 2).1)[1]? = some ⟨shaB awX, makeB awX awY, 0⟩ := by
  rw [itms_fst (by omega)]
  rfl
end Go.Proofs.YtdbbgpcjclmelaaGreatDoor.Ch
