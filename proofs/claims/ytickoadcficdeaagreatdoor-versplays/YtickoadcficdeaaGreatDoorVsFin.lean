/- The table of package vers is what the laws ask for. -/
import Derived.Test.YtickoadcficdeaaGreatDoorVsWalkF
import Derived.Test.YtickoadcficdeaaGreatDoorVsWalkI
namespace Go.Proofs.YtickoadcficdeaaGreatDoor
open Go.RowKit Vs

theorem face : Face Tab where
  but := fun h hb hE => h.but hb hE
  new := new
  put := fun k v n hT hO hl hF hk _ => put k v n _ hT hO hl hF hk
  drop := fun k n hT hO hl hF hk => drop k n _ hT hO hl hF hk
  get := fun k a hT hO hl hk => get k a _ hT hO hl hk
  range := fun lo hi a hT hO hl => range lo hi a _ hT hO hl
  touched := fun lo hi a hT hO hl hk => touched lo hi a _ hT hO hl hk
  collect := fun a hT hO hl hF => collect a _ hT hO hl hF
  size := fun hT hO hl => size _ hT hO hl
  top := fun hT _ _ => top_ _ hT
end Go.Proofs.YtickoadcficdeaaGreatDoor
