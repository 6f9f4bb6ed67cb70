/- The closed facts of the row of PlotBack, one by one. -/
import Derived.Test.YthaggkmammfpbaaGreatDoorRows
import Derived.ProofKit
import Derived.LaidLaws
import Derived.JoinedCond
import Derived.SevenTiedAt
namespace Go.Proofs.YthaggkmammfpbaaGreatDoor
open Go.ChangeShapes Go.WideShapes Go.ChangeAt Go.RowKit

theorem pk_k10 : (Rows.plotBackRow.inPlace == Tryz.prog.inPlace 6) = true := by kernel_rfl
theorem pk_k11 : (Rows.plotBackRow.unfollowed == Tryz.prog.unfollowed 6) = true := by kernel_rfl
end Go.Proofs.YthaggkmammfpbaaGreatDoor

