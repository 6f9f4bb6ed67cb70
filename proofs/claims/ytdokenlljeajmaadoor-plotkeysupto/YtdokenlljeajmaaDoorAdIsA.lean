/- The contract of the reference's IsAddr. -/
import Derived.Test.YtdokenlljeajmaaDoorAdBase
namespace Go.Proofs.YtdokenlljeajmaaDoor
open Go.RowKit

theorem refIsAddr (a : Int) (w : World) : Calls Tryd.prog 9 #[.int .i64 a] w fun e w' => e = .returned (.bool (Bur.isA a)) ∧ w' = w := by
  go_enter Tryd.func9, Tryd.ntmps9
  go_wp2
  all_goals (go_ret; refine ⟨ret_bool ?_, rfl⟩; simp [Bur.isA]; try omega)
end Go.Proofs.YtdokenlljeajmaaDoor
