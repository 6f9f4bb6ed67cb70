/- VersStays of the program as it landed: what is forgotten nobody sees. No condition. -/
import Derived.Test.YtollgepjgeoeiaaDoorVsFin
import Derived.Test.YtollgepjgeoeiaaDoorVtProof
namespace Go.Proofs.YtollgepjgeoeiaaDoor
theorem versStays_card : Rows.VersStaysCardSaid := versStays_card' face
#print axioms versStays_card
end Go.Proofs.YtollgepjgeoeiaaDoor
