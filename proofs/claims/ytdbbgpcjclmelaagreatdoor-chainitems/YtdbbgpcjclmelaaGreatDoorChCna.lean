/- Chains: a region that makes several blocks, in whatever order. -/
import Derived.Test.YtdbbgpcjclmelaaGreatDoorChzAll
import Derived.RegionTactic
namespace Go.Proofs.YtdbbgpcjclmelaaGreatDoor.Ch
open Cb Go.RowKit
/-- The values of those that were made so far. -/
def valsOf {k : Nat} (V : Fin k → Nat → Value) (c : Fin k → Option Nat) : Fin k → Value := fun j => match c j with | none => undef | some b => V j b
theorem allocs {P : Program} {md : Region.Mode} {ops : Array Oper} {Q : Exit → Act → World → Prop} {k : Nat} (I : Fin k → Nat) (mk : (Fin k → Bool) → Array Bool) (A : (Fin k → Value) → Act) (O : Fin k → Obj) (V : Fin k → Nat → Value) (w : World) (F : Nat)
    (hset : ∀ f j, (mk f).setIfInBounds (I j) true = mk (fun i => if i = j then true else f i))
    (hr : ∀ f, (∃ j, f j = false) → Region.ready md ops (mk f) ≠ [] ∧ ∀ i ∈ Region.ready md ops (mk f), ∃ j, i = I j ∧ f j = false)
    (hs : ∀ j (g : Fin k → Value) X K, K (A (fun i => if i = j then V j X.heap.size else g i)) (X.alloc (O j)) → wpOp P ops Q (I j) K (A g) X)
    (hfin : ∀ (b : Fin k → Nat) X, (∀ j, X.heap[b j]? = some (O j) ∧ w.heap.size ≤ b j) → (∀ i j, i ≠ j → b i ≠ b j) → Below w.heap.size w X → wpAny P md ops Q F (mk fun _ => true) (A fun j => V j (b j)) X) :
    ∀ (m : Nat) (L : List (Fin k)) (c : Fin k → Option Nat) (X : World), L.length = m → L.Nodup → (∀ j, c j = none ↔ j ∈ L) → (∀ j b, c j = some b → X.heap[b]? = some (O j) ∧ w.heap.size ≤ b) → (∀ i j b, i ≠ j → c i = some b → c j ≠ some b) → Below w.heap.size w X →
      wpAny P md ops Q (m + F) (mk fun j => (c j).isSome) (A (valsOf V c)) X
  | 0, L, c, X, hl, hnd, hc, hh, hne, hb => by
    have hL := List.eq_nil_of_length_eq_zero hl
    have hsome : ∀ j, c j = some ((c j).getD 0) := fun j => by
      cases e : c j with
      | none => exact absurd ((hc j).1 e) (by rw [hL]; simp)
      | some b => rfl
    have e1 : (fun j => (c j).isSome) = fun _ => true := funext fun j => by rw [hsome j]; rfl
    have e2 : valsOf V c = fun j => V j ((c j).getD 0) := funext fun j => by
      unfold valsOf
      rw [hsome j]
      rfl
    rw [e1, e2, Nat.zero_add]
    refine hfin _ X (fun j => hh j _ (hsome j)) (fun i j hij e => hne i j _ hij (hsome i) ?_) hb
    rw [e]
    exact hsome j
  | m + 1, L, c, X, hl, hnd, hc, hh, hne, hb => by
    have hex : ∃ j, (c j).isSome = false := by
      cases L with
      | nil => simp at hl
      | cons j t =>
        refine ⟨j, ?_⟩
        rw [(hc j).2 (by simp)]
        rfl
    obtain ⟨r1, r2⟩ := hr (fun j => (c j).isSome) hex
    rw [Nat.add_right_comm]
    refine wpAny_all (rs := Region.ready md ops (mk fun j => (c j).isSome)) rfl r1 (fun i hi => ?_)
    obtain ⟨j, rfl, hj⟩ := r2 i hi
    have hjn : c j = none := by
      cases e : c j with
      | none => rfl
      | some b => rw [e] at hj; cases hj
    refine hs j _ X _ ?_
    have e1 : (mk fun j => (c j).isSome).setIfInBounds (I j) true = mk fun i => ((fun i => if i = j then some X.heap.size else c i) i).isSome := by
      rw [hset]
      congr 1
      funext i
      by_cases e : i = j
      · simp [e]
      · simp [e]
    have e2 : (fun i => if i = j then V j X.heap.size else valsOf V c i) = valsOf V (fun i => if i = j then some X.heap.size else c i) := by
      funext i
      unfold valsOf
      by_cases e : i = j
      · subst e; simp
      · simp [e]
    rw [e1, e2]
    refine allocs I mk A O V w F hset hr hs hfin m (L.erase j) _ _ (by rw [List.length_erase_of_mem ((hc j).1 hjn)]; omega) (hnd.erase j) (fun i => ?_) (fun i b hib => ?_) (fun i i' b hii h1 h2 => ?_) (hb.alloc hb.size _)
    · by_cases e : i = j
      · subst e
        simp [hnd.not_mem_erase]
      · simp only [e, if_false]
        rw [hc i, List.mem_erase_of_ne e]
    · by_cases e : i = j
      · subst e
        simp at hib
        subst hib
        exact ⟨alloc_at rfl, hb.size⟩
      · simp only [e, if_false] at hib
        obtain ⟨h1, h2⟩ := hh i b hib
        exact ⟨by rw [Below.heap_alloc _ _ _ (block_lt h1)]; exact h1, h2⟩
    · by_cases e : i = j
      · subst e
        simp at h1
        subst h1
        simp only [Ne.symm hii, if_false] at h2
        exact absurd (block_lt (hh i' _ h2).1) (Nat.lt_irrefl _)
      · simp only [e, if_false] at h1
        by_cases e' : i' = j
        · subst e'
          simp at h2
          subst h2
          exact absurd (block_lt (hh i _ h1).1) (Nat.lt_irrefl _)
        · simp only [e', if_false] at h2
          exact hne i i' b hii h1 h2
end Go.Proofs.YtdbbgpcjclmelaaGreatDoor.Ch
