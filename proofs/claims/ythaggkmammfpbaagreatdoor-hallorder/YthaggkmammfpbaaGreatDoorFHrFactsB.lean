/- -/
import Derived.Test.YthaggkmammfpbaaGreatDoorRows
import Derived.ProofKit
import Derived.LaidLaws
import Derived.JoinedCond
import Derived.SevenTiedAt
namespace Go.Proofs.YthaggkmammfpbaaGreatDoor
open Go.ChangeShapes Go.WideShapes Go.ChangeAt Go.RowKit
theorem hr_k12 : (Rows.hallOrderRow.recurses == Tryz.prog.recurses 8) = true := by kernel_rfl
theorem hr_k13 : (Rows.hallOrderRow.named == Tryz.prog.varsNamed 8) = true := by kernel_rfl
theorem hr_goes : false = Rows.hallOrderRow.goesBy Tryz.pinned.checked.prog := by kernel_rfl
end Go.Proofs.YthaggkmammfpbaaGreatDoor
