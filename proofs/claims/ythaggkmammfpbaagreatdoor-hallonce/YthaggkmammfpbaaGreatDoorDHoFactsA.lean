/- The closed facts of the row of HallOnce, one by one. -/
import Derived.Test.YthaggkmammfpbaaGreatDoorRows
import Derived.ProofKit
import Derived.LaidLaws
import Derived.JoinedCond
import Derived.SevenTiedAt
namespace Go.Proofs.YthaggkmammfpbaaGreatDoor
open Go.ChangeShapes Go.WideShapes Go.ChangeAt Go.RowKit

theorem ho_k10 : (Rows.hallOnceRow.inPlace == Tryz.prog.inPlace 7) = true := by kernel_rfl
theorem ho_k11 : (Rows.hallOnceRow.unfollowed == Tryz.prog.unfollowed 7) = true := by kernel_rfl
end Go.Proofs.YthaggkmammfpbaaGreatDoor

