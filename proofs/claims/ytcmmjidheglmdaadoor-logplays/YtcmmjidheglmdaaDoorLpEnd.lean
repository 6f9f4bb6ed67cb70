/- LogPlays of the program as it landed: whatever lists are kept, and whatever fails and crashes, package log answers as the document's log. No condition. -/
import Derived.Test.YtcmmjidheglmdaaDoorLwFace
import Derived.Test.YtcmmjidheglmdaaDoorLpProof
namespace Go.Proofs.YtcmmjidheglmdaaDoor
theorem logPlays_card : Rows.LogPlaysCardSaid := logPlays_card' lface
#print axioms logPlays_card
end Go.Proofs.YtcmmjidheglmdaaDoor
