/- The closed facts of the row of PlotBack, one by one. -/
import Derived.Test.YthaggkmammfpbaaGreatDoorRows
import Derived.ProofKit
import Derived.LaidLaws
import Derived.JoinedCond
import Derived.SevenTiedAt
namespace Go.Proofs.YthaggkmammfpbaaGreatDoor
open Go.ChangeShapes Go.WideShapes Go.ChangeAt Go.RowKit

theorem pk_k12 : (Rows.plotBackRow.recurses == Tryz.prog.recurses 6) = true := by kernel_rfl
theorem pk_k13 : (Rows.plotBackRow.named == Tryz.prog.varsNamed 6) = true := by kernel_rfl
theorem pk_goes : false = Rows.plotBackRow.goesBy Tryz.pinned.checked.prog := by kernel_rfl
end Go.Proofs.YthaggkmammfpbaaGreatDoor

