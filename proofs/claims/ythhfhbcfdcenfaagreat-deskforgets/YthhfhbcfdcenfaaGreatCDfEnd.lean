/- DeskForgets of the program as it landed. No condition. -/
import Derived.Test.YthhfhbcfdcenfaaGreatCMF
import Derived.Test.YthhfhbcfdcenfaaGreatCDfProof
namespace Go.Proofs.YthhfhbcfdcenfaaGreat
theorem deskForgets_holds : Rows.DeskForgetsSaid := df_said dface
#print axioms deskForgets_holds
end Go.Proofs.YthhfhbcfdcenfaaGreat
