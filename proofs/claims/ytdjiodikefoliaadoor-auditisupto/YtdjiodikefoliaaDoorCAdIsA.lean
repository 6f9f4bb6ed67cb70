/- The contract of the reference's IsAddr. -/
import Derived.Test.YtdjiodikefoliaaDoorCAdBase
namespace Go.Proofs.YtdjiodikefoliaaDoor
open Go.RowKit

theorem refIsAddr (a : Int) (w : World) : Calls Tryd.prog 41 #[.int .i64 a] w fun e w' => e = .returned (.bool (Bur.isA a)) ∧ w' = w := by
  go_enter Tryd.func41, Tryd.ntmps41
  go_wp2
  all_goals (go_ret; refine ⟨ret_bool ?_, rfl⟩; simp [Bur.isA]; try omega)
end Go.Proofs.YtdjiodikefoliaaDoor
