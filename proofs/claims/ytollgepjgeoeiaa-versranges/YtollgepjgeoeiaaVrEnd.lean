/- VersRanges of the program as it landed: a range is what is got. No condition. -/
import Derived.Test.YtollgepjgeoeiaaVsFin
import Derived.Test.YtollgepjgeoeiaaVrProof
namespace Go.Proofs.Ytollgepjgeoeiaa
theorem versRanges_holds : Rows.VersRangesSaid := vr_said face
#print axioms versRanges_holds
end Go.Proofs.Ytollgepjgeoeiaa
