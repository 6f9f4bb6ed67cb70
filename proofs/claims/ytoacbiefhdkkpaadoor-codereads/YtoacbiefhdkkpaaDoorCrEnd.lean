/- CodeReads of the program as it landed: whatever changes and bytes are handed in, package code's Check, Encode and Decode answer as the document's. No condition. -/
import Derived.Test.YtoacbiefhdkkpaaDoorCcFace
import Derived.Test.YtoacbiefhdkkpaaDoorCrProof
namespace Go.Proofs.YtoacbiefhdkkpaaDoor
theorem codeReads_card : Rows.CodeReadsCardSaid := codeReads_card' cface
#print axioms codeReads_card
end Go.Proofs.YtoacbiefhdkkpaaDoor
