/- -/
import Derived.Test.YthaggkmammfpbaaGreatDoorRows
import Derived.ProofKit
import Derived.LaidLaws
import Derived.JoinedCond
import Derived.SevenTiedAt
namespace Go.Proofs.YthaggkmammfpbaaGreatDoor
open Go.ChangeShapes Go.WideShapes Go.ChangeAt Go.RowKit
theorem hr_k10 : (Rows.hallOrderRow.inPlace == Tryz.prog.inPlace 8) = true := by kernel_rfl
theorem hr_k11 : (Rows.hallOrderRow.unfollowed == Tryz.prog.unfollowed 8) = true := by kernel_rfl
end Go.Proofs.YthaggkmammfpbaaGreatDoor
