/- The contracts of package code. -/
import Derived.Test.YtoacbiefhdkkpaaDoorCcC
import Derived.Test.YtoacbiefhdkkpaaDoorCcF
import Derived.Test.YtoacbiefhdkkpaaDoorCdFace
namespace Go.Proofs.YtoacbiefhdkkpaaDoor
open Go.RowKit Go.Lib

theorem cface : CFace where
  check := fun l p cp hl hp => check l p cp _ hl hp
  encode := fun l p cp hl hp => encode l p cp _ hl hp
  decode := fun b p cp _ hc hp => decode b p cp _ hc hp
end Go.Proofs.YtoacbiefhdkkpaaDoor
