/- The document's Apply, walked. -/
import Derived.Test.YtdbbgpcjclmelaaGreatDoorDeDla
namespace Go.Proofs.YtdbbgpcjclmelaaGreatDoor.De
open Cb
open Go.RowKit
theorem bsz {L : List UInt8} {r : ByteArray} (h : bs L = r) : r.size = L.length := by rw [← h, bs_size]
theorem bs_nilD (L : List UInt8) : ((bs L).toList == []) = decide (L = []) := by
  rw [ByteArray.toList_eq, bs_list]
  cases L <;> simp
def szD : Value → Nat
  | .string s => s.size
  | _ => 0
theorem bs_cut (L : List UInt8) (a b : Nat) : (bs L).extract a b = bs ((L.drop a).take (b - a)) := by
  apply ByteArray.ext
  apply Array.toList_inj.1
  simp [bs, List.extract_eq_take_drop]
theorem bs_catD (a b : List UInt8) : bs a ++ bs b = bs (a ++ b) := by
  apply ByteArray.ext
  apply Array.toList_inj.1
  simp [bs, ByteArray.data_append]
end Go.Proofs.YtdbbgpcjclmelaaGreatDoor.De
