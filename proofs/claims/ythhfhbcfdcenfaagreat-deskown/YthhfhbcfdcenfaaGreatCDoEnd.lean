/- DeskOwn of the program as it landed. No condition. -/
import Derived.Test.YthhfhbcfdcenfaaGreatCMF
import Derived.Test.YthhfhbcfdcenfaaGreatCDoProof
namespace Go.Proofs.YthhfhbcfdcenfaaGreat
theorem deskOwn_holds : Rows.DeskOwnSaid := dw_said dface
#print axioms deskOwn_holds
end Go.Proofs.YthhfhbcfdcenfaaGreat
