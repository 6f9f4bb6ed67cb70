/- DeskTidies of the program as it landed. No condition. -/
import Derived.Test.YthhfhbcfdcenfaaGreatCMF
import Derived.Test.YthhfhbcfdcenfaaGreatCDtProof
namespace Go.Proofs.YthhfhbcfdcenfaaGreat
theorem deskTidies_holds : Rows.DeskTidiesSaid := dt_said dface
#print axioms deskTidies_holds
end Go.Proofs.YthhfhbcfdcenfaaGreat
