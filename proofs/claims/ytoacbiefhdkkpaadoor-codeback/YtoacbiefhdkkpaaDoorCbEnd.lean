/- CodeBack of the program as it landed: whatever changes are handed in, the bytes that Encode makes of them are read by Decode as these changes, and cut off anywhere, or with a byte more behind, are refused. No condition. -/
import Derived.Test.YtoacbiefhdkkpaaDoorCcFace
import Derived.Test.YtoacbiefhdkkpaaDoorCbProof
namespace Go.Proofs.YtoacbiefhdkkpaaDoor
theorem codeBack_card : Rows.CodeBackCardSaid := codeBack_card' cface
#print axioms codeBack_card
end Go.Proofs.YtoacbiefhdkkpaaDoor
