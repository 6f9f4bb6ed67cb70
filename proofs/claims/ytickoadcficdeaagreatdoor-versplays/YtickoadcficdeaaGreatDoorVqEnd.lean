/- VersPlays of the program as it landed: whatever is put, asked for and forgotten, in any order, its table answers as the document's. Its condition: the steps are of bulk at most 1048576 (a key of 2^63-1 bytes and one more byte is no text). -/
import Derived.Test.YtickoadcficdeaaGreatDoorVsFin
import Derived.Test.YtickoadcficdeaaGreatDoorVqProof
namespace Go.Proofs.YtickoadcficdeaaGreatDoor
theorem versPlays_card : Rows.VersPlaysUptoCardSaid := versPlays_card' face
#print axioms versPlays_card
end Go.Proofs.YtickoadcficdeaaGreatDoor
