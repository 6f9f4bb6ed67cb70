/- -/
import Derived.Test.YtcjdoeclblhaeaaGreatDoorRows
import Derived.ProofKit
import Derived.LaidLaws
import Derived.JoinedCond
import Derived.SevenTiedAt
namespace Go.Proofs.YtcjdoeclblhaeaaGreatDoor
open Go.ChangeShapes Go.WideShapes Go.ChangeAt Go.RowKit
theorem rp_k10:(Rows.runBeginsRow.inPlace==Tryz.prog.inPlace 3)=true:=by kernel_rfl
theorem rp_k11:(Rows.runBeginsRow.unfollowed==Tryz.prog.unfollowed 3)=true:=by kernel_rfl
end Go.Proofs.YtcjdoeclblhaeaaGreatDoor
