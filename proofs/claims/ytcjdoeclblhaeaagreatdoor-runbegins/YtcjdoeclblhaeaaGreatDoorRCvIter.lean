/- -/
import Derived.RangeFuncNested
import Derived.RangeFuncBound
import Derived.RangeFuncCalls
import Derived.RangeFuncLeaves
import Derived.Shelf.Abstract
import Derived.Shelf.RegionOpen
import Derived.WalkKit
import Derived.OwnWalkIn
import Derived.TacticsInMore
import Derived.LoopNIn
import Derived.LoopIn
import Derived.Test.YtcjdoeclblhaeaaGreatDoorRCvShelf
import Derived.Test.YtcjdoeclblhaeaaGreatDoorRShelf
import Derived.Test.YtcjdoeclblhaeaaGreatDoorRCvMath
import Derived.Test.YtcjdoeclblhaeaaGreatDoorRSpWalkA
namespace Go.Proofs.YtcjdoeclblhaeaaGreatDoor.Sa
open Go.RowKit Go.Shelf
attribute [local go_sem] Oper.semAt_some
abbrev Tab (w:World):Prop:=TabAt 8 Lib.deBruijn64tab w
theorem Tab.step {w w':World} {n:Nat} (h:Tab w) (hb:Below n w w') (hn:8<n):Tab w':=fun j hj=>(hb.cell (p:=⟨8,j,none⟩) hn).trans (h j hj)
theorem Tab.lt {w:World} (h:Tab w):8<w.heap.size:=by
 have:=World.block_lt_of_cell? _ _ (h 0 (by decide))
 exact this
def encP (x:Bur.Sp):Array Value:=#[.agg #[.int .i64 x.1,.int .i64 x.2]]
end Go.Proofs.YtcjdoeclblhaeaaGreatDoor.Sa
