/- -/
import Derived.Test.YtmghmpclmphccaaGreatDoorRows
import Derived.ProofKit
import Derived.LaidLaws
import Derived.JoinedCond
import Derived.SevenTiedAt
namespace Go.Proofs.YtmghmpclmphccaaGreatDoor
open Go.ChangeShapes Go.WideShapes Go.ChangeAt Go.RowKit
theorem tz_k12:(Rows.topSerialRow.recurses==Tryz.prog.recurses 3)=true:=by kernel_rfl
theorem tz_k13:(Rows.topSerialRow.named==Tryz.prog.varsNamed 3)=true:=by kernel_rfl
theorem tz_goes:false=Rows.topSerialRow.goesBy Tryz.pinned.checked.prog:=by kernel_rfl
end Go.Proofs.YtmghmpclmphccaaGreatDoor
