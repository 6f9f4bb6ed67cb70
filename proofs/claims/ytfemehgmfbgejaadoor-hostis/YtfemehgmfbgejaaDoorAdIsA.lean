/- The contract of the reference's IsAddr. -/
import Derived.Test.YtfemehgmfbgejaaDoorAdBase
namespace Go.Proofs.YtfemehgmfbgejaaDoor
open Go.RowKit

theorem refIsAddr (a : Int) (w : World) : Calls Tryd.prog 13 #[.int .i64 a] w fun e w' => e = .returned (.bool (Bur.isA a)) ∧ w' = w := by
  go_enter Tryd.func13, Tryd.ntmps13
  go_wp2
  all_goals (go_ret; refine ⟨ret_bool ?_, rfl⟩; simp [Bur.isA]; try omega)
end Go.Proofs.YtfemehgmfbgejaaDoor
