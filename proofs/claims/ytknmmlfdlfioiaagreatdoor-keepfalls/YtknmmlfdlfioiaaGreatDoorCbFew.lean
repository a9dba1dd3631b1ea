/- Small facts on texts and rows of bytes. -/
import Derived.Test.YtknmmlfdlfioiaaGreatDoorCbPure
import Derived.WalkKit
import Derived.BigRegion
import Derived.Deep.QuietTactic
import Derived.BigQuiet
namespace Go.Proofs.YtknmmlfdlfioiaaGreatDoor.Cb
open Go.RowKit
theorem hideIt {p : Prop} (h : p) : Hid p := h
def bs (l : List UInt8) : ByteArray := ⟨l.toArray⟩
theorem bs_data (s : ByteArray) : bs s.data.toList = s := by cases s; simp [bs]
theorem bs_list (l : List UInt8) : (bs l).data.toList = l := by simp [bs]
theorem bs_size (l : List UInt8) : (bs l).size = l.length := by simp [bs, ByteArray.size]
theorem str_len (s : ByteArray) : s.data.toList.length = s.size := by rw [Array.length_toList]; rfl
theorem cat_data (a b : ByteArray) : (a ++ b).data.toList = a.data.toList ++ b.data.toList := by rw [ByteArray.data_append, Array.toList_append]
theorem bs_append (a b : List UInt8) : bs a ++ bs b = bs (a ++ b) := by
  rw [← bs_data (bs a ++ bs b), cat_data, bs_list, bs_list]
theorem below_step {B : Nat} {w a b : World} (h : Below B w a) (hB : B ≤ w.heap.size) (k : Below a.heap.size a b) : Below B w b := h.trans (k.mono (Nat.le_trans hB h.size))
theorem below2 {w a b : World} (h : Below w.heap.size w a) (k : Below a.heap.size a b) : Below w.heap.size w b := below_step h (Nat.le_refl _) k
theorem infoB : (Tryz.prog.info? 5).map (fun i => (i.zero, i.size, i.bytes)) = some (some (.int .u8 0), 1, 1) := by kernel_rfl
def u8s (l : List UInt8) : List Value := l.map fun b => Value.int .u8 (b.toNat : Int)
theorem u8s_len (l : List UInt8) : (u8s l).length = l.length := by simp [u8s]
theorem u8s_append (a b : List UInt8) : u8s (a ++ b) = u8s a ++ u8s b := by simp [u8s]
theorem alloc_at {w : World} {o : Obj} {n : Nat} (h : w.heap.size = n) : (w.alloc o).heap[n]? = some o := by subst h; exact heap_alloc_new w o
/-! A row of bytes in memory. -/
def rowA (l : List UInt8) : Array Value := (u8s l).toArray
theorem rowA_at (l : List UInt8) (j : Nat) (h : j < l.length) : (rowA l)[j]? = some (.int .u8 ((l[j]).toNat : Int)) := by simp [rowA, u8s, h]
theorem rowA_set (l : List UInt8) (i : Nat) (v : UInt8) : (rowA l).setIfInBounds i (.int .u8 (v.toNat : Int)) = rowA (l.set i v) := by
  simp [rowA, u8s, List.setIfInBounds_toArray, List.map_set]
theorem made_bytes (n : Nat) : madeCells (Value.int .u8 0).cells n = rowA (List.replicate n 0) := by
  apply Array.ext_getElem?
  intro k
  by_cases h : k < n
  · rw [rowA_at _ _ (by simpa using h)]
    have : k % 1 = 0 := by omega
    simp [madeCells, h, Value.cells, this]
  · rw [Array.getElem?_eq_none (by simp [size_madeCells]; omega), Array.getElem?_eq_none (by simp [rowA, u8s]; omega)]
theorem run_make_bytes (k : IntKind) (n : Nat) (hn : n ≤ 281474976710656) (w : World) :
    (Instr.makeSlice 86 (.int k (n : Int)) (.int k (n : Int))).run Tryz.prog w = .ok (.slice (some ⟨w.heap.size, 0, none⟩) n n) (w.alloc (.cells (rowA (List.replicate n 0)) 5)) := by
  obtain ⟨i, hi, hz, hs, hb⟩ := info_parts infoB
  have := run_make (P := Tryz.prog) w 86 5 i (.int .u8 0) Tryz.underlying86 hi hz k k (n : Int) (n : Int) (by omega) (Int.le_refl _) (by rw [hb]; omega) (by omega)
  rw [this, hs, Int.toNat_natCast, Nat.mul_one, made_bytes]
theorem row_put {w : World} {g i : Nat} {l : List UInt8} {t : TypeId} (v : UInt8) (h : w.heap[g]? = some (.cells (rowA l) t (0, 0))) :
    (w.setCell ⟨g, i, none⟩ (.int .u8 (v.toNat : Int))).heap[g]? = some (.cells (rowA (l.set i v)) t (0, 0)) := by
  rw [heap_setCell_same w g i _ t _ h, rowA_set]
theorem ints_back (l : List UInt8) : strOfNums (l.map fun b => (b.toNat : Int)) = bs l := by
  have : ∀ l : List UInt8, List.map ((fun n : Int => UInt8.ofNat n.toNat) ∘ fun b : UInt8 => (b.toNat : Int)) l = l := by
    intro l
    induction l with
    | nil => rfl
    | cons b t ih => rw [List.map_cons, ih]; simp
  simp [strOfNums, bs, this]
theorem run_row (l : List UInt8) (w : World) (g : Nat) (t : TypeId) (h : w.heap[g]? = some (.cells (rowA l) t (0, 0))) (c : Nat) :
    (convert 86 9 (.slice (some ⟨g, 0, none⟩) l.length c)).run Tryz.prog w = .ok (.string (bs l)) w := by
  rw [← ints_back]
  refine run_convert_bytes_arg (P := Tryz.prog) w 86 5 Tryz.underlying86 Tryz.underlying5 g 0 l.length c _ (by simp) (fun i hi => ?_) 9 Tryz.underlying9
  rw [Nat.zero_add, cell_of_row _ _ i _ _ _ h, rowA_at _ _ hi]
  simp [List.getD, hi]
theorem run_one (u : UInt8) (w : World) : (convert 86 9 (.slice (some ⟨w.heap.size, 0, none⟩) 1 1)).run Tryz.prog (w.alloc (.cells #[.int .u8 (u.toNat : Int)] 5)) = .ok (.string (bs [u])) (w.alloc (.cells #[.int .u8 (u.toNat : Int)] 5)) :=
  run_row [u] _ w.heap.size 5 (alloc_at rfl) 1
end Go.Proofs.YtknmmlfdlfioiaaGreatDoor.Cb
