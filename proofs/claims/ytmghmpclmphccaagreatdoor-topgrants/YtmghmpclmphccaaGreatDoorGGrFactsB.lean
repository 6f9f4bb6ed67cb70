/- -/
import Derived.Test.YtmghmpclmphccaaGreatDoorRows
import Derived.ProofKit
import Derived.SevenTiedAt
namespace Go.Proofs.YtmghmpclmphccaaGreatDoor
open Go.ChangeShapes Go.WideShapes Go.ChangeAt Go.RowKit
theorem afX:(Rows.topGrantsRow.recurses==Tryz.prog.recurses 4)=true:=by kernel_rfl
theorem afw:(Rows.topGrantsRow.named==Tryz.prog.varsNamed 4)=true:=by kernel_rfl
theorem abw:false=Rows.topGrantsRow.goesBy Tryz.pinned.checked.prog:=by kernel_rfl
