/- VersPlays of the program as it landed: whatever is put, asked for and forgotten, in any order, its table answers as the document's. No condition. -/
import Derived.Test.YtollgepjgeoeiaaGreatDoorVsFin
import Derived.Test.YtollgepjgeoeiaaGreatDoorVpProof
namespace Go.Proofs.YtollgepjgeoeiaaGreatDoor
theorem versPlays_card : Rows.VersPlaysCardSaid := versPlays_card' face
#print axioms versPlays_card
end Go.Proofs.YtollgepjgeoeiaaGreatDoor
