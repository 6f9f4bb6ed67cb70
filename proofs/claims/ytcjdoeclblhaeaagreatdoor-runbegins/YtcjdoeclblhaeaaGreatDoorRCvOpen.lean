/- -/
import Derived.Test.YtcjdoeclblhaeaaGreatDoorRSpWalkA
import Derived.Test.YtcjdoeclblhaeaaGreatDoorRows
import Derived.ProofKit
import Derived.OpenShut
import Derived.Deep.SlicePairs
import Derived.Carry
import Derived.Test.YtcjdoeclblhaeaaGreatDoorRCvIter
import Derived.LaidLaws
import Derived.LaidHandle
import Derived.Lib.LaidTab
import Derived.Shelf.Vars
namespace Go.Proofs.YtcjdoeclblhaeaaGreatDoor.Sa
open Go.ChangeShapes Go.WideShapes Go.ChangeAt Go.RowKit Go.Deep
theorem tab_type:(Tryz.prog.globals[8]?).map (·.type)=some 354:=by kernel_rfl
theorem tab_cells:Tryz.prog.cellsOf 354=64:=by kernel_rfl
theorem u8_cells:Tryz.prog.cellsOf 5=1:=by kernel_rfl
theorem tab_global:Tryz.prog.globalNamed "math/bits.deBruijn64tab" = some 8:=by kernel_rfl
theorem tab_datum:(Rows.laid_math_bits_deBruijn64tab:DataW Unit)=Lib.tabData .u8 (Lib.deBruijn64tab.map fun n:Nat=>(n:Int)):=by kernel_rfl
theorem tab_of_vars {W:World} {ps:List MemPlace} {rest:List (String×DataW Unit)} (h:DataW.LaidVars Tryz.prog W (("math/bits.deBruijn64tab",Rows.laid_math_bits_deBruijn64tab) :: rest) ps):Tab W:=by
 obtain⟨g,t,cs,fuel,p,q,hg,ht,hvar,hd,_,_⟩:=h
 obtain rfl:=Option.some.inj (tab_global.symm.trans hg)
 obtain rfl:=Option.some.inj (tab_type.symm.trans ht)
 rw[tab_datum] at hd
 have hT:Lib.TabIs Tryz.prog W "math/bits.deBruijn64tab" .u8 (Lib.deBruijn64tab.map fun n:Nat=>(n:Int)):=by
  unfold Lib.TabIs
  rw[hvar,<- Lib.cells_of_tab Tryz.underlying354 Tryz.underlying5 u8_cells tab_cells hd]
 intro j hj
 have:=hT.cell tab_global j (by simpa using hj)
 rw[this]
 simp[List.getD,hj]
def layCv (cs:Array Value):Obj->Obj
 | .cells _ t frozen=>.cells cs t frozen
 | o=>o
def cvTab32:Array Value:=#[.int .u8 0,.int .u8 1,.int .u8 28,.int .u8 2,.int .u8 29,.int .u8 14,.int .u8 24,.int .u8 3,.int .u8 30,.int .u8 22,.int .u8 20,.int .u8 15,.int .u8 25,.int .u8 17,.int .u8 4,.int .u8 8,.int .u8 31,.int .u8 27,.int .u8 13,.int .u8 23,.int .u8 21,.int .u8 19,.int .u8 16,.int .u8 7,.int .u8 26,.int .u8 12,.int .u8 18,.int .u8 6,.int .u8 11,.int .u8 5,.int .u8 10,.int .u8 9]
def cvTab64:Array Value:=#[.int .u8 0,.int .u8 1,.int .u8 56,.int .u8 2,.int .u8 57,.int .u8 49,.int .u8 28,.int .u8 3,.int .u8 61,.int .u8 58,.int .u8 42,.int .u8 50,.int .u8 38,.int .u8 29,.int .u8 17,.int .u8 4,.int .u8 62,.int .u8 47,.int .u8 59,.int .u8 36,.int .u8 45,.int .u8 43,.int .u8 51,.int .u8 22,.int .u8 53,.int .u8 39,.int .u8 33,.int .u8 30,.int .u8 24,.int .u8 18,.int .u8 12,.int .u8 5,.int .u8 63,.int .u8 55,.int .u8 48,.int .u8 27,.int .u8 60,.int .u8 41,.int .u8 37,.int .u8 16,.int .u8 46,.int .u8 35,.int .u8 44,.int .u8 21,.int .u8 52,.int .u8 32,.int .u8 23,.int .u8 11,.int .u8 54,.int .u8 26,.int .u8 40,.int .u8 15,.int .u8 34,.int .u8 20,.int .u8 31,.int .u8 10,.int .u8 25,.int .u8 14,.int .u8 19,.int .u8 9,.int .u8 13,.int .u8 8,.int .u8 7,.int .u8 6]
end Go.Proofs.YtcjdoeclblhaeaaGreatDoor.Sa
