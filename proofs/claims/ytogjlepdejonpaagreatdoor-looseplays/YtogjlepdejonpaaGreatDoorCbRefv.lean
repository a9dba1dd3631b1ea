/- The number of a letter, as the document has it, walked. -/
import Derived.Test.YtogjlepdejonpaaGreatDoorCbRefh
import Derived.Test.YtogjlepdejonpaaGreatDoorCbUnhexw
namespace Go.Proofs.YtogjlepdejonpaaGreatDoor.Cb
open Go.RowKit
set_option maxHeartbeats 400000 in
theorem value_any (b:UInt8) (w:World) :
  Calls Tryz.prog 208 #[.int .u8 (b.toNat:Int)] w fun e w'=>e=.returned (.int .i64 (Cd.val b:Int))∧w'=w:=by
 obtain ⟨x,hx⟩:∃ x,b.toNat=x:=⟨_,rfl⟩
 have hl:=b.toNat_lt
 rw [Cd.val,hx]
 rw [hx] at hl
 clear hx
 have l1:(x:Int) < 256:=by omega
 by_cases h1:48≤x∧x≤57
 ·have a1:(48:Int)≤(x:Int):=by omega
  have a2:(x:Int)≤57:=by omega
  rw [if_pos h1,show ((x - 48:Nat):Int)=(x:Int) - 48 by omega]
  go_enter Tryz.func208,Tryz.ntmps208
  go_wp2
  go_ret
  exact ⟨rfl,rfl⟩
 ·rw [if_neg h1]
  by_cases h2:97≤x∧x≤102
  ·have a1:(97:Int)≤(x:Int):=by omega
   have a2:(x:Int)≤102:=by omega
   have a3:(48:Int)≤(x:Int):=by omega
   have a4:decide ((x:Int)≤57)=false:=decide_eq_false (by omega)
   rw [if_pos h2,show ((x - 87:Nat):Int)=(x:Int) - 87 by omega]
   go_enter Tryz.func208,Tryz.ntmps208
   go_wp2
   go_ret
   exact ⟨rfl,rfl⟩
  ·rw [if_neg h2]
   have b1:(decide ((48:Int)≤(x:Int)) && decide ((x:Int)≤57))=false:=by
    rw [Bool.and_eq_false_iff,decide_eq_false_iff_not,decide_eq_false_iff_not];omega
   have b2:(decide ((97:Int)≤(x:Int)) && decide ((x:Int)≤102))=false:=by
    rw [Bool.and_eq_false_iff,decide_eq_false_iff_not,decide_eq_false_iff_not];omega
   clear h1 h2
   by_cases c1:(48:Int)≤(x:Int) <;> by_cases c2:(97:Int)≤(x:Int)
   all_goals simp only [c1,c2,decide_true,decide_false,Bool.true_and,Bool.false_and] at b1 b2
   all_goals go_enter Tryz.func208,Tryz.ntmps208
   all_goals go_wp2
   all_goals go_ret
   all_goals exact ⟨rfl,rfl⟩
end Go.Proofs.YtogjlepdejonpaaGreatDoor.Cb
