/- The contract of the reference's IsAddr. -/
import Derived.Test.YtfhidiedmenliaaGreatDoorAdBase
namespace Go.Proofs.YtfhidiedmenliaaGreatDoor
open Go.RowKit

theorem refIsAddr (a : Int) (w : World) : Calls Tryz.prog 40 #[.int .i64 a] w fun e w' => e = .returned (.bool (Bur.isA a)) ∧ w' = w := by
  go_enter Tryz.func40, Tryz.ntmps40
  go_wp2
  all_goals (go_ret; refine ⟨ret_bool ?_, rfl⟩; simp [Bur.isA]; try omega)
end Go.Proofs.YtfhidiedmenliaaGreatDoor
