/- -/
import Derived.Test.YtmghmpclmphccaaGreatDoorRows
import Derived.ProofKit
import Derived.SevenTiedAt
namespace Go.Proofs.YtmghmpclmphccaaGreatDoor
open Go.ChangeShapes Go.WideShapes Go.ChangeAt Go.RowKit
theorem aek:(Rows.topGrantsRow.inPlace==Tryz.prog.inPlace 4)=true:=by kernel_rfl
theorem agh:(Rows.topGrantsRow.unfollowed==Tryz.prog.unfollowed 4)=true:=by kernel_rfl
