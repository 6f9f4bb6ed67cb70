/- -/
import Derived.Test.YtmghmpclmphccaaGreatDoorRows
import Derived.ProofKit
import Derived.OpenShut
import Derived.Deep.SlicePairs
import Derived.Test.YtmghmpclmphccaaGreatDoorGCvIter
import Derived.LaidHandle
namespace Go.Proofs.YtmghmpclmphccaaGreatDoor.Sa
open Go.ChangeShapes Go.WideShapes Go.ChangeAt Go.RowKit Go.Deep
theorem J9:Tryz.prog.cellsOf 31=2:=by kernel_rfl
theorem Zt:(Tryz.prog.globals[3]?).map (·.type)=some 378:=by kernel_rfl
theorem Wn:Tryz.prog.cellsOf 378=64:=by kernel_rfl
theorem YE:Tryz.prog.cellsOf 5=1:=by kernel_rfl
theorem DY:Tryz.prog.globalNamed "math/bits.deBruijn64tab" = some 3:=by kernel_rfl
theorem VK:(Rows.laid_math_bits_deBruijn64tab:DataW Unit)=Lib.tabData .u8 (Lib.deBruijn64tab.map fun n:Nat=>(n:Int)):=by kernel_rfl
theorem Qd {W:World}{ps:List MemPlace}{rest:List (String×DataW Unit)}(h:DataW.LaidVars Tryz.prog W (("math/bits.deBruijn64tab",Rows.laid_math_bits_deBruijn64tab) :: rest) ps):Tab W:=by
 obtain⟨g,t,cs,fuel,p,q,hg,ht,hvar,hd,_,_⟩:=h
 obtain rfl:=Option.some.inj (DY.symm.trans hg)
 obtain rfl:=Option.some.inj (Zt.symm.trans ht)
 rw[VK] at hd
 have hT:Lib.TabIs Tryz.prog W "math/bits.deBruijn64tab" .u8 (Lib.deBruijn64tab.map fun n:Nat=>(n:Int)):=by
  unfold Lib.TabIs
  rw[hvar,<- Lib.cells_of_tab Tryz.underlying378 Tryz.underlying5 YE Wn hd]
 intro j hj
 have:=hT.cell DY j (by simpa using hj)
 rw[this]
 simp[List.getD,hj]
def yK (cs:Array Value):Obj->Obj
 | .cells _ t frozen=>.cells cs t frozen
 | o=>o
def NG:Array Value:=#[.int .u8 0,.int .u8 1,.int .u8 28,.int .u8 2,.int .u8 29,.int .u8 14,.int .u8 24,.int .u8 3,.int .u8 30,.int .u8 22,.int .u8 20,.int .u8 15,.int .u8 25,.int .u8 17,.int .u8 4,.int .u8 8,.int .u8 31,.int .u8 27,.int .u8 13,.int .u8 23,.int .u8 21,.int .u8 19,.int .u8 16,.int .u8 7,.int .u8 26,.int .u8 12,.int .u8 18,.int .u8 6,.int .u8 11,.int .u8 5,.int .u8 10,.int .u8 9]
def L6:Array Value:=#[.int .u8 0,.int .u8 1,.int .u8 56,.int .u8 2,.int .u8 57,.int .u8 49,.int .u8 28,.int .u8 3,.int .u8 61,.int .u8 58,.int .u8 42,.int .u8 50,.int .u8 38,.int .u8 29,.int .u8 17,.int .u8 4,.int .u8 62,.int .u8 47,.int .u8 59,.int .u8 36,.int .u8 45,.int .u8 43,.int .u8 51,.int .u8 22,.int .u8 53,.int .u8 39,.int .u8 33,.int .u8 30,.int .u8 24,.int .u8 18,.int .u8 12,.int .u8 5,.int .u8 63,.int .u8 55,.int .u8 48,.int .u8 27,.int .u8 60,.int .u8 41,.int .u8 37,.int .u8 16,.int .u8 46,.int .u8 35,.int .u8 44,.int .u8 21,.int .u8 52,.int .u8 32,.int .u8 23,.int .u8 11,.int .u8 54,.int .u8 26,.int .u8 40,.int .u8 15,.int .u8 34,.int .u8 20,.int .u8 31,.int .u8 10,.int .u8 25,.int .u8 14,.int .u8 19,.int .u8 9,.int .u8 13,.int .u8 8,.int .u8 7,.int .u8 6]
