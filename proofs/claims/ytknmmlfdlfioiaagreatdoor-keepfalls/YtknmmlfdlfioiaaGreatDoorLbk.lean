/- Small facts on texts, letters and worlds that the walks of this seat share. -/
import Derived.Test.YtknmmlfdlfioiaaGreatDoorProg
import Derived.Test.YtknmmlfdlfioiaaGreatDoorLbp
import Derived.WalkKit
import Derived.BigRegion
import Derived.Deep.QuietTactic
import Derived.BigQuiet
namespace Go.Proofs.YtknmmlfdlfioiaaGreatDoor
open Go.RowKit
theorem hideIt {p : Prop} (h : p) : Hid p := h
def bs (l : List UInt8) : ByteArray := ⟨l.toArray⟩
theorem bs_data (s : ByteArray) : bs s.data.toList = s := by cases s; simp [bs]
theorem bs_list (l : List UInt8) : (bs l).data.toList = l := by simp [bs]
theorem bs_size (l : List UInt8) : (bs l).size = l.length := by simp [bs, ByteArray.size]
theorem str_len (s : ByteArray) : s.data.toList.length = s.size := by rw [Array.length_toList]; rfl
theorem cat_data (a b : ByteArray) : (a ++ b).data.toList = a.data.toList ++ b.data.toList := by rw [ByteArray.data_append, Array.toList_append]
theorem below_step {B : Nat} {w a b : World} (h : Below B w a) (hB : B ≤ w.heap.size) (k : Below a.heap.size a b) : Below B w b := h.trans (k.mono (Nat.le_trans hB h.size))
theorem below2 {w a b : World} (h : Below w.heap.size w a) (k : Below a.heap.size a b) : Below w.heap.size w b := below_step h (Nat.le_refl _) k
theorem below_iter (w : World) (s : ByteArray) (pos : Nat) : Below w.heap.size w (w.iter s pos) := (Below.refl _ _).alloc (Nat.le_refl _) _
theorem alloc_at {w : World} {o : Obj} {n : Nat} (h : w.heap.size = n) : (w.alloc o).heap[n]? = some o := by subst h; exact heap_alloc_new w o
/-- What a name must not be, as the walk asks it. -/
structure SegCmp (s : ByteArray) (a b c : Bool) : Prop where
  a1 : (s.toList == []) = a
  a2 : s.toList.isEmpty = a
  b1 : (s.toList == [46]) = b
  c1 : (s.toList == [46, 46]) = c
theorem seg_cmp (s : ByteArray) : SegCmp s (s.data.toList == []) (s.data.toList == [46]) (s.data.toList == [46, 46]) := by
  refine ⟨by rw [ByteArray.toList_eq], ?_, by rw [ByteArray.toList_eq], by rw [ByteArray.toList_eq]⟩
  rw [ByteArray.toList_eq]
  cases s.data.toList <;> rfl
theorem noName_of (s : ByteArray) {a b c d : Bool} (ha : (s.data.toList == []) = a) (hd : decide ((64 : Int) < (s.size : Int)) = d) (hb : (s.data.toList == [46]) = b) (hc : (s.data.toList == [46, 46]) = c) : Lb.noName s.data.toList = (((a || d) || b) || c) := by
  subst ha hb hc hd
  unfold Lb.noName
  rw [str_len]
  congr 1
  congr 1
  congr 1
  apply decide_eq_decide.2
  omega
/-- How a rune compares with what is barred. -/
structure BarC (x : Int) (a b c d e : Bool) : Prop where
  a1 : decide (x < (32 : Int)) = a
  b1 : decide ((127 : Int) ≤ x) = b
  c1 : decide (x ≤ (159 : Int)) = c
  d1 : (x == 47) = d
  e1 : (x == 65533) = e
def barI (x : Int) : Bool := decide (x < 32) || (decide (127 ≤ x) && decide (x ≤ 159)) || (x == 47) || (x == 65533)
theorem barI_of {x : Int} {a b c d e : Bool} (h : BarC x a b c d e) : barI x = (((a || (b && c)) || d) || e) := by
  obtain ⟨h1, h2, h3, h4, h5⟩ := h
  subst h1 h2 h3 h4 h5
  rfl
theorem bar_cases (x : Int) : BarC x true false true false false ∨ BarC x false false true true false ∨ BarC x false false true false false ∨ BarC x false true true false false ∨ BarC x false true false false false ∨ BarC x false true false false true := by
  have mk : ∀ a b c d e : Bool, (decide (x < (32 : Int)) = a ∧ decide ((127 : Int) ≤ x) = b ∧ decide (x ≤ (159 : Int)) = c ∧ (x == 47) = d ∧ (x == 65533) = e) → BarC x a b c d e := fun a b c d e h => ⟨h.1, h.2.1, h.2.2.1, h.2.2.2.1, h.2.2.2.2⟩
  by_cases h1 : x < 32
  · exact .inl (mk _ _ _ _ _ (by simp; omega))
  · by_cases h2 : x = 47
    · exact .inr (.inl (mk _ _ _ _ _ (by simp; omega)))
    · by_cases h3 : x < 127
      · exact .inr (.inr (.inl (mk _ _ _ _ _ (by simp; omega))))
      · by_cases h4 : x ≤ 159
        · exact .inr (.inr (.inr (.inl (mk _ _ _ _ _ (by simp; omega)))))
        · by_cases h5 : x = 65533
          · exact .inr (.inr (.inr (.inr (.inr (mk _ _ _ _ _ (by simp; omega))))))
          · exact .inr (.inr (.inr (.inr (.inl (mk _ _ _ _ _ (by simp; omega))))))
theorem barI_nat (x : Nat) : barI (x : Int) = Lb.bar x := by
  unfold barI Lb.bar
  have e1 : ∀ n : Nat, ((x : Int) == (n : Int)) = decide (x = n) := by intro n; by_cases hh : x = n <;> simp [hh] <;> omega
  have e47 := e1 47
  have e65 := e1 65533
  simp only [Int.cast_ofNat_Int] at e47 e65
  rw [e47, e65]
  congr 1
  congr 1
  congr 1
  · apply decide_eq_decide.2; omega
  · congr 1 <;> (apply decide_eq_decide.2; omega)
theorem barI_ref (d : Nat × Nat) : barI (Lb.refV d) = Lb.bar d.1 := by
  unfold Lb.refV
  by_cases h : Lb.isBad d = true
  · rw [if_pos h]
    have : d.1 = 65533 := by simp [Lb.isBad] at h; exact h.1
    rw [this]
    rfl
  · rw [if_neg h, barI_nat]
/-- How a letter compares: all that a walk asks, as equations. -/
structure Cmp (x : Int) (a b c d f g : Bool) : Prop where
  a1 : decide ((97 : Int) ≤ x) = a
  b1 : decide (x ≤ (122 : Int)) = b
  c1 : decide ((48 : Int) ≤ x) = c
  d1 : decide (x ≤ (57 : Int)) = d
  f1 : (x == 45) = f
  g1 : (x == 95) = g
theorem cmp_cases (x : Int) : Cmp x true true true false false false ∨ Cmp x true false true false false false ∨ Cmp x false true true true false false ∨ Cmp x false true true false false true ∨ Cmp x false true true false false false
    ∨ Cmp x false true false true true false ∨ Cmp x false true false true false false := by
  have mk : ∀ a b c d f g : Bool, (decide ((97 : Int) ≤ x) = a ∧ decide (x ≤ (122 : Int)) = b ∧ decide ((48 : Int) ≤ x) = c ∧ decide (x ≤ (57 : Int)) = d ∧ (x == 45) = f ∧ (x == 95) = g) → Cmp x a b c d f g := fun a b c d f g h => ⟨h.1, h.2.1, h.2.2.1, h.2.2.2.1, h.2.2.2.2.1, h.2.2.2.2.2⟩
  by_cases h1 : 97 ≤ x
  · by_cases h2 : x ≤ 122
    · exact .inl (mk _ _ _ _ _ _ (by simp; omega))
    · exact .inr (.inl (mk _ _ _ _ _ _ (by simp; omega)))
  · by_cases h3 : 48 ≤ x
    · by_cases h4 : x ≤ 57
      · exact .inr (.inr (.inl (mk _ _ _ _ _ _ (by simp; omega))))
      · by_cases h5 : x = 95
        · exact .inr (.inr (.inr (.inl (mk _ _ _ _ _ _ (by simp; omega)))))
        · exact .inr (.inr (.inr (.inr (.inl (mk _ _ _ _ _ _ (by simp; omega))))))
    · by_cases h7 : x = 45
      · exact .inr (.inr (.inr (.inr (.inr (.inl (mk _ _ _ _ _ _ (by simp; omega)))))))
      · exact .inr (.inr (.inr (.inr (.inr (.inr (mk _ _ _ _ _ _ (by simp; omega)))))))
def refI (x : Int) : Bool := (decide (97 ≤ x) && decide (x ≤ 122)) || (decide (48 ≤ x) && decide (x ≤ 57)) || (x == 45) || (x == 95)
theorem refI_of {x : Int} {a b c d f g : Bool} (h : Cmp x a b c d f g) : refI x = ((((a && b) || (c && d)) || f) || g) := by
  obtain ⟨h1, h2, h3, h4, h5, h6⟩ := h
  subst h1 h2 h3 h4 h5 h6
  rfl
theorem refI_big (x : Nat) (h : 128 ≤ x) : refI (x : Int) = false := by
  unfold refI
  simp
  omega
theorem at_list (p : ByteArray) (k : Nat) (h : k < p.size) : p.data.toList[k]? = some p[k] := by
  rw [List.getElem?_eq_getElem (by rw [str_len]; exact h)]
  rfl
end Go.Proofs.YtknmmlfdlfioiaaGreatDoor
