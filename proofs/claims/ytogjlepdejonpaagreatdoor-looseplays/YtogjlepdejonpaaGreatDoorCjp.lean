/- Closed facts on what the law LoosePlays reaches, one by one. -/
import Derived.Test.YtogjlepdejonpaaGreatDoorLoAll
import Derived.Test.YtogjlepdejonpaaGreatDoorRows
import Derived.JoinedCond
namespace Go.Proofs.YtogjlepdejonpaaGreatDoor
open Go.RowKit
theorem jIn : Tryz.prog.inPlace 3 = Rows.loosePlaysRow.inPlace := by kernel_rfl
theorem jUn : Tryz.prog.unfollowed 3 = Rows.loosePlaysRow.unfollowed := by kernel_rfl
theorem jRe : Tryz.prog.recurses 3 = Rows.loosePlaysRow.recurses := by kernel_rfl
theorem jNa : Tryz.prog.varsNamed 3 = Rows.loosePlaysRow.named := by kernel_rfl
end Go.Proofs.YtogjlepdejonpaaGreatDoor
