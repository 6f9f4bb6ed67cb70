/- -/
import Derived.Test.YtmghmpclmphccaaGreatDoorRows
import Derived.ProofKit
import Derived.LaidLaws
import Derived.JoinedCond
import Derived.SevenTiedAt
namespace Go.Proofs.YtmghmpclmphccaaGreatDoor
open Go.ChangeShapes Go.WideShapes Go.ChangeAt Go.RowKit
theorem kp_k10:(Rows.topKeptRow.inPlace==Tryz.prog.inPlace 5)=true:=by kernel_rfl
theorem kp_k11:(Rows.topKeptRow.unfollowed==Tryz.prog.unfollowed 5)=true:=by kernel_rfl
end Go.Proofs.YtmghmpclmphccaaGreatDoor
