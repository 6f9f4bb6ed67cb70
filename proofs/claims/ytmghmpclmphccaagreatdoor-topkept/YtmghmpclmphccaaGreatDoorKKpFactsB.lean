/- -/
import Derived.Test.YtmghmpclmphccaaGreatDoorRows
import Derived.ProofKit
import Derived.LaidLaws
import Derived.JoinedCond
import Derived.SevenTiedAt
namespace Go.Proofs.YtmghmpclmphccaaGreatDoor
open Go.ChangeShapes Go.WideShapes Go.ChangeAt Go.RowKit
theorem kp_k12:(Rows.topKeptRow.recurses==Tryz.prog.recurses 5)=true:=by kernel_rfl
theorem kp_k13:(Rows.topKeptRow.named==Tryz.prog.varsNamed 5)=true:=by kernel_rfl
theorem kp_goes:false=Rows.topKeptRow.goesBy Tryz.pinned.checked.prog:=by kernel_rfl
end Go.Proofs.YtmghmpclmphccaaGreatDoor
