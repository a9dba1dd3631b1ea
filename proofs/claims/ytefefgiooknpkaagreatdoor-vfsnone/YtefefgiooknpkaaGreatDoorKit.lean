/- Small facts on texts, letters and worlds that the walks of this seat share. -/
import Derived.Test.YtefefgiooknpkaaGreatDoorProg
import Derived.Test.YtefefgiooknpkaaGreatDoorPathp
import Derived.WalkKit
import Derived.BigRegion
import Derived.Deep.QuietTactic
import Derived.BigQuiet
namespace Go.Proofs.YtefefgiooknpkaaGreatDoor
open Go.RowKit
theorem hideIt {p : Prop} (h : p) : Hid p := h
def bs (l : List UInt8) : ByteArray := ⟨l.toArray⟩
theorem bs_data (s : ByteArray) : bs s.data.toList = s := by cases s; simp [bs]
theorem bs_list (l : List UInt8) : (bs l).data.toList = l := by simp [bs]
theorem bs_size (l : List UInt8) : (bs l).size = l.length := by simp [bs, ByteArray.size]
theorem str_len (s : ByteArray) : s.data.toList.length = s.size := by rw [Array.length_toList]; rfl
theorem below_step {B : Nat} {w a b : World} (h : Below B w a) (hB : B ≤ w.heap.size) (k : Below a.heap.size a b) : Below B w b := h.trans (k.mono (Nat.le_trans hB h.size))
theorem below2 {w a b : World} (h : Below w.heap.size w a) (k : Below a.heap.size a b) : Below w.heap.size w b := below_step h (Nat.le_refl _) k
theorem alloc_at {w : World} {o : Obj} {n : Nat} (h : w.heap.size = n) : (w.alloc o).heap[n]? = some o := by subst h; exact heap_alloc_new w o
/-- How a letter compares: all that a walk asks, as equations. -/
structure Cmp (x : Int) (a b c d e f g : Bool) : Prop where
  a1 : decide ((97 : Int) ≤ x) = a
  b1 : decide (x ≤ (122 : Int)) = b
  c1 : decide ((48 : Int) ≤ x) = c
  d1 : decide (x ≤ (57 : Int)) = d
  e1 : (x == 46) = e
  f1 : (x == 45) = f
  g1 : (x == 95) = g
theorem cmp_cases (x : Int) : Cmp x true true true false false false false ∨ Cmp x true false true false false false false ∨ Cmp x false true true true false false false ∨ Cmp x false true true false false false true ∨ Cmp x false true true false false false false
    ∨ Cmp x false true false true true false false ∨ Cmp x false true false true false true false ∨ Cmp x false true false true false false false := by
  have mk : ∀ a b c d e f g : Bool, (decide ((97 : Int) ≤ x) = a ∧ decide (x ≤ (122 : Int)) = b ∧ decide ((48 : Int) ≤ x) = c ∧ decide (x ≤ (57 : Int)) = d ∧ (x == 46) = e ∧ (x == 45) = f ∧ (x == 95) = g) → Cmp x a b c d e f g := fun a b c d e f g h => ⟨h.1, h.2.1, h.2.2.1, h.2.2.2.1, h.2.2.2.2.1, h.2.2.2.2.2.1, h.2.2.2.2.2.2⟩
  by_cases h1 : 97 ≤ x
  · by_cases h2 : x ≤ 122
    · exact .inl (mk _ _ _ _ _ _ _ (by simp; omega))
    · exact .inr (.inl (mk _ _ _ _ _ _ _ (by simp; omega)))
  · by_cases h3 : 48 ≤ x
    · by_cases h4 : x ≤ 57
      · exact .inr (.inr (.inl (mk _ _ _ _ _ _ _ (by simp; omega))))
      · by_cases h5 : x = 95
        · exact .inr (.inr (.inr (.inl (mk _ _ _ _ _ _ _ (by simp; omega)))))
        · exact .inr (.inr (.inr (.inr (.inl (mk _ _ _ _ _ _ _ (by simp; omega))))))
    · by_cases h6 : x = 46
      · exact .inr (.inr (.inr (.inr (.inr (.inl (mk _ _ _ _ _ _ _ (by simp; omega)))))))
      · by_cases h7 : x = 45
        · exact .inr (.inr (.inr (.inr (.inr (.inr (.inl (mk _ _ _ _ _ _ _ (by simp; omega))))))))
        · exact .inr (.inr (.inr (.inr (.inr (.inr (.inr (mk _ _ _ _ _ _ _ (by simp; omega))))))))
end Go.Proofs.YtefefgiooknpkaaGreatDoor
