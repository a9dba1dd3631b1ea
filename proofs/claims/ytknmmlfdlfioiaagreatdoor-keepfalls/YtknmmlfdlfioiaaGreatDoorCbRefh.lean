/- The document's digits, walked: a digit's letter, a letter's number, bytes as digits, digits as bytes. -/
import Derived.Test.YtknmmlfdlfioiaaGreatDoorCbUnhexw
import Derived.Deep.RegionHeld3
namespace Go.Proofs.YtknmmlfdlfioiaaGreatDoor.Cb
open Go.RowKit
theorem wrap_small (x : Int) (h0 : 0 ≤ x) (h1 : x < 9223372036854775808) : IntKind.i64.wrap x = x := by rw [IntKind.wrap_i64]; omega
theorem tdiv_nat (b x : Nat) (c : Int) (h : (b : Int) / c = (x : Int)) : (b : Int).tdiv c = (x : Int) := by rw [Int.tdiv_eq_ediv_of_nonneg (by omega)]; exact h
theorem tmod_nat (b x : Nat) (c : Int) (h : (b : Int) % c = (x : Int)) : (b : Int).tmod c = (x : Int) := by rw [Int.tmod_eq_emod_of_nonneg (by omega)]; exact h
end Go.Proofs.YtknmmlfdlfioiaaGreatDoor.Cb
