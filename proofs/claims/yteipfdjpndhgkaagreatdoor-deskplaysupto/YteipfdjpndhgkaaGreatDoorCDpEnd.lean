/- DeskPlays of the program as it landed: any transactions, in any order, whatever fails and crashes, are told what the document's desk tells them. Its condition: the arguments are of bulk at most 1048576 (a range from a text of 2^63-1 bytes cannot be asked for: that text and one more byte is no text). -/
import Derived.Test.YteipfdjpndhgkaaGreatDoorCMF
import Derived.Test.YteipfdjpndhgkaaGreatDoorCDpProof
namespace Go.Proofs.YteipfdjpndhgkaaGreatDoor
theorem deskPlays_card : Rows.DeskPlaysUptoCardSaid := deskPlays_card' dface
#print axioms deskPlays_card
end Go.Proofs.YteipfdjpndhgkaaGreatDoor
