/- -/
import Derived.RangeFuncNested
import Derived.RangeFuncBound
import Derived.Test.YtmghmpclmphccaaGreatDoorGCvShelf
import Derived.Test.YtmghmpclmphccaaGreatDoorGShelf
import Derived.Test.YtmghmpclmphccaaGreatDoorGSpWalkA
namespace Go.Proofs.YtmghmpclmphccaaGreatDoor.Sa
open Go.RowKit Go.Shelf
attribute [local go_sem] Oper.semAt_some
abbrev Tab (w:World):Prop:=TabAt 3 Lib.deBruijn64tab w
theorem Tab.step {w w':World}{n:Nat}(h:Tab w)(hb:Below n w w')(hn:3<n):Tab w':=fun j hj=>(hb.cell (p:=⟨3,j,none⟩) hn).trans (h j hj)
theorem Tab.lt {w:World}(h:Tab w):3<w.heap.size:=by
 have:=World.block_lt_of_cell? _ _ (h 0 (by decide))
 exact this
def qM (x:Bur.Sp):Array Value:=#[.agg #[.int .i64 x.1,.int .i64 x.2]]
attribute [local go_sem] Oper.semAt_some
theorem zi:(Tryz.prog.info? 31).map (fun i=>(i.zero,i.size,i.bytes))=some (some (.agg #[.int .i64 0,.int .i64 0]),2,16):=by kernel_rfl
