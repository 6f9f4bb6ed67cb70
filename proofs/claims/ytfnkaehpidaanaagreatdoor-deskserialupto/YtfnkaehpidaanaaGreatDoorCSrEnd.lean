/- DeskSerial of the program as it landed: of transactions that go on at once, in any order, those that were committed are told just what they are told alone, one behind the other. Its condition: the steps are of bulk at most 1048576 (a range that begins at a text of 2^63-1 bytes can not be asked for: one more byte is no text). -/
import Derived.Test.YtfnkaehpidaanaaGreatDoorCMF
import Derived.Test.YtfnkaehpidaanaaGreatDoorCSrProof
namespace Go.Proofs.YtfnkaehpidaanaaGreatDoor
theorem deskSerial_card : Rows.DeskSerialUptoCardSaid := deskSerial_card' dface
#print axioms deskSerial_card
end Go.Proofs.YtfnkaehpidaanaaGreatDoor
