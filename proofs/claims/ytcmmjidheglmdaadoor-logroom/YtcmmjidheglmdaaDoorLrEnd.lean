/- LogRoom of the program as it landed: whatever is appended, fails and crashes, the bytes are never more than room, and what is refused changes nothing. No condition. -/
import Derived.Test.YtcmmjidheglmdaaDoorLwFace
import Derived.Test.YtcmmjidheglmdaaDoorLrProof
namespace Go.Proofs.YtcmmjidheglmdaaDoor
theorem logRoom_card : Rows.LogRoomCardSaid := logRoom_card' lface
#print axioms logRoom_card
end Go.Proofs.YtcmmjidheglmdaaDoor
