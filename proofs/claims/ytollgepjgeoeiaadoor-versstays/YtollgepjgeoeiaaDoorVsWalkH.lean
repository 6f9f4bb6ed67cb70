/- The contracts of package vers' Collect and Touched. -/
import Derived.Test.YtollgepjgeoeiaaDoorVsWalkG
import Derived.Test.YtollgepjgeoeiaaDoorVsIter
namespace Go.Proofs.YtollgepjgeoeiaaDoor
open Go.RowKit Go.Maps Vs

end Go.Proofs.YtollgepjgeoeiaaDoor
