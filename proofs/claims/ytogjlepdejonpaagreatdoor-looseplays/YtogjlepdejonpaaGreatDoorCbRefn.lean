/- The document's numbers, walked: a number's bytes, and the number at the beginning of bytes. -/
import Derived.Test.YtogjlepdejonpaaGreatDoorCbUnnumw
namespace Go.Proofs.YtogjlepdejonpaaGreatDoor.Cb
open Go.RowKit
namespace Cd
def F:Nat→Nat
 | 0=>0
 | k + 1=>F k + 128 ^ (k + 1)
theorem F_succ:∀ k,F (k + 1)=128 * (1 + F k)
 | 0=>rfl
 | k + 1=>by
  have h:=F_succ k
  have e:F (k + 1)=F k + 128 ^ (k + 1):=rfl
  show F (k + 1) + 128 ^ (k + 1 + 1)=128 * (1 + F (k + 1))
  rw [Nat.pow_succ 128 (k + 1)]
  omega
theorem F_small:∀ k:Fin 10,F k.val≤9295997013522923648∧128 ^ k.val≤9223372036854775808:=by decide
theorem F_mod (k:Nat):F k % 128=0:=by
 cases k with
 | zero=>rfl
 | succ k=>rw [F_succ];omega
def dlm:Nat→Nat→List UInt8
 | 0,_=>[]
 | k + 1,r=>UInt8.ofNat (128 + r % 128) :: dlm k (r / 128)
theorem more_F:∀ k r,r < 128 ^ (k + 1)→more (r + F k)=dlm k (r / 128)
 | 0,r,h=>by rw [F,more_small (by omega),dlm]
 | k + 1,r,h=>by
  have h1:=F_succ k
  have h2:=F_mod k
  rw [Nat.pow_succ] at h
  have ih:=more_F k (r / 128) (by omega)
  rw [more_big (by omega),show (r + F (k + 1)) / 128 - 1=r / 128 + F k by omega,ih,dlm]
  congr 3
  omega
theorem numR_F (k r:Nat) (h:r < 128 ^ (k + 1)):numR (r + F k)=UInt8.ofNat (r % 128) :: dlm k (r / 128):=by
 have h2:=F_mod k
 rw [numR,more_F k r h,show (r + F k) % 128=r % 128 by omega]
end Cd
end Go.Proofs.YtogjlepdejonpaaGreatDoor.Cb
