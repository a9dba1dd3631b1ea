/- The document's reading of digits, walked. -/
import Derived.Test.YtknmmlfdlfioiaaGreatDoorCbRefh
namespace Go.Proofs.YtknmmlfdlfioiaaGreatDoor.Cb
open Go.RowKit
theorem one_cell {w : World} (x : UInt8) (X : Value) (hx : X = .int .u8 (x.toNat : Int)) (j : Nat) (u : Value) (h : (u8s [x])[j]? = some u) :
    (w.alloc (.cells #[X] 5)).cell? ((⟨w.heap.size, 0, none⟩ : Addr).add j) = some u := by
  subst hx
  rw [Addr.add_lit, Nat.zero_add, World.cell?_alloc_at _ _ _ _ rfl]
  match j, h with
  | 0, h => simpa [u8s] using h
structure RuMem (N m : Nat) (l outs : List UInt8) (v : Value) (w0 w : World) : Prop where
  below : Below N w0 w
  own : w.ownsRow N 5 1 v m (u8s outs)
  tells : Cd.unhexL l = (Cd.unhexL (l.drop (2 * m))).map (fun r => outs ++ r)
theorem RuMem.stop {N m : Nat} {l outs : List UInt8} {v : Value} {w0 w : World} (h : RuMem N m l outs v w0 w) {a : UInt8} (hd : l.drop (2 * m) = a :: l.drop (2 * m + 1)) (hv : ¬ Cd.val a < 16) : Cd.unhexL l = none := by
  rw [h.tells, hd]
  cases l.drop (2 * m + 1) with
  | nil => rfl
  | cons b t => rw [Cd.unhexL, if_neg (fun h => hv h.1)]; rfl
theorem RuMem.half {N m : Nat} {l outs : List UInt8} {v : Value} {w0 w : World} (h : RuMem N m l outs v w0 w) (hl : 2 * m + 1 = l.length) : Cd.unhexL l = none := by
  rw [h.tells]
  have : ∃ a, l.drop (2 * m) = [a] := by
    refine ⟨l[2 * m]'(by omega), ?_⟩
    rw [List.drop_eq_getElem_cons (by omega), List.drop_of_length_le (by omega)]
  obtain ⟨a, e⟩ := this
  rw [e]
  rfl
theorem RuMem.stop2 {N m : Nat} {l outs : List UInt8} {v : Value} {w0 w : World} (h : RuMem N m l outs v w0 w) {a b : UInt8} (hd : l.drop (2 * m) = a :: b :: l.drop (2 * (m + 1))) (hv : ¬ Cd.val b < 16) : Cd.unhexL l = none := by
  rw [h.tells, hd, Cd.unhexL, if_neg (fun h => hv h.2)]
  rfl
theorem RuMem.next {N m : Nat} {l outs : List UInt8} {v v' : Value} {w0 w w2 : World} {o : Obj} (h : RuMem N m l outs v w0 w) {a b x : UInt8} (hd : l.drop (2 * m) = a :: b :: l.drop (2 * (m + 1))) (ha : Cd.val a < 16) (hb : Cd.val b < 16)
    (hx : UInt8.ofNat (16 * Cd.val a + Cd.val b) = x) (hN : N ≤ w0.heap.size) (h2 : w2.ownsRow N 5 1 v' (m + 1) (u8s outs ++ u8s [x])) (hg : (w.alloc o).drew.grownBy w2 v.ownBlock) :
    RuMem N (m + 1) l (outs ++ [x]) v' w0 w2 := by
  have hs := h.below.size
  refine ⟨((h.below.alloc (by omega) o).drew).grown hg (by simp; omega) (own_ge h.own), by rw [u8s_append]; exact h2, ?_⟩
  rw [h.tells, hd, Cd.unhexL, if_pos ⟨ha, hb⟩, hx]
  cases Cd.unhexL (l.drop (2 * (m + 1))) <;> simp
theorem RuMem.fin {N m : Nat} {l outs : List UInt8} {v : Value} {w0 w : World} (h : RuMem N m l outs v w0 w) (hl : l.length = 2 * m) : Cd.unhexL l = some outs := by
  rw [h.tells, List.drop_of_length_le (by omega)]
  simp [Cd.unhexL]
theorem drop_one (s : ByteArray) (p : Nat) (h1 : p < s.size) : s.data.toList.drop p = s[p] :: s.data.toList.drop (p + 1) := by
  rw [List.drop_eq_getElem_cons (by rw [str_len]; exact h1)]
  rfl
end Go.Proofs.YtknmmlfdlfioiaaGreatDoor.Cb
