/- The closed facts of the row of HallOnce, one by one. -/
import Derived.Test.YthaggkmammfpbaaGreatDoorRows
import Derived.ProofKit
import Derived.LaidLaws
import Derived.JoinedCond
import Derived.SevenTiedAt
namespace Go.Proofs.YthaggkmammfpbaaGreatDoor
open Go.ChangeShapes Go.WideShapes Go.ChangeAt Go.RowKit

theorem ho_k12 : (Rows.hallOnceRow.recurses == Tryz.prog.recurses 7) = true := by kernel_rfl
theorem ho_k13 : (Rows.hallOnceRow.named == Tryz.prog.varsNamed 7) = true := by kernel_rfl
theorem ho_goes : false = Rows.hallOnceRow.goesBy Tryz.pinned.checked.prog := by kernel_rfl
end Go.Proofs.YthaggkmammfpbaaGreatDoor

