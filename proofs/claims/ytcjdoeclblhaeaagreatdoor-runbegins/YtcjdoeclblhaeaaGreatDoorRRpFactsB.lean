/- -/
import Derived.Test.YtcjdoeclblhaeaaGreatDoorRows
import Derived.ProofKit
import Derived.LaidLaws
import Derived.JoinedCond
import Derived.SevenTiedAt
namespace Go.Proofs.YtcjdoeclblhaeaaGreatDoor
open Go.ChangeShapes Go.WideShapes Go.ChangeAt Go.RowKit
theorem rp_k12:(Rows.runBeginsRow.recurses==Tryz.prog.recurses 3)=true:=by kernel_rfl
theorem rp_k13:(Rows.runBeginsRow.named==Tryz.prog.varsNamed 3)=true:=by kernel_rfl
theorem rp_goes:false=Rows.runBeginsRow.goesBy Tryz.pinned.checked.prog:=by kernel_rfl
end Go.Proofs.YtcjdoeclblhaeaaGreatDoor
