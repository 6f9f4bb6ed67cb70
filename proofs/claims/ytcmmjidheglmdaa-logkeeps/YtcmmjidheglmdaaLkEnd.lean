/- LogKeeps of the program as it landed: whatever is appended, fails and crashes, the lists that were safe are the first ones, and no list is there that was not appended. No condition. -/
import Derived.Test.YtcmmjidheglmdaaLwFace
import Derived.Test.YtcmmjidheglmdaaLkProof
namespace Go.Proofs.Ytcmmjidheglmdaa
theorem logKeeps_holds : Rows.LogKeepsSaid := lk_said lface
#print axioms logKeeps_holds
end Go.Proofs.Ytcmmjidheglmdaa
