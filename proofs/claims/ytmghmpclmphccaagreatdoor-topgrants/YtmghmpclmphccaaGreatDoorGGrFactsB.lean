/- -/
import Derived.Test.YtmghmpclmphccaaGreatDoorRows
import Derived.ProofKit
import Derived.SevenTiedAt
namespace Go.Proofs.YtmghmpclmphccaaGreatDoor
open Go.ChangeShapes Go.WideShapes Go.ChangeAt Go.RowKit
theorem agl:(Rows.topGrantsRow.recurses==Tryz.prog.recurses 4)=true:=by kernel_rfl
theorem ad4:(Rows.topGrantsRow.named==Tryz.prog.varsNamed 4)=true:=by kernel_rfl
theorem aaR:false=Rows.topGrantsRow.goesBy Tryz.pinned.checked.prog:=by kernel_rfl
