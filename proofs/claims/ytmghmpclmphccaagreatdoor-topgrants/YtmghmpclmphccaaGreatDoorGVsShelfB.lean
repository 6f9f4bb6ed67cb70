/- -/
import Derived.Shelf.SlSorted.Search
import Derived.Test.YtmghmpclmphccaaGreatDoorProg
namespace Go.Proofs
open Go.Shelf
def Tryz.JX:Go.Shelf.Ren:=⟨fun|16=>204|n=>n,fun|3=>3|35=>139|4=>4|38=>191|n=>n,fun|n=>n⟩
theorem Tryz.laySearch:Go.Proofs.SlLaysO.n16 Tryz.prog Tryz.JX:={
 mixed:=by kernel_rfl
 f16:=Tryz.func204.trans (congrArg some (by kernel_rfl))
 t3:=Tryz.underlying3
 a3:=Tryz.isAgg3
 z3:=Tryz.sizeOf3
 v3:=Tryz.zeroValue3
 t4:=Tryz.underlying4
 a4:=Tryz.isAgg4
 z4:=Tryz.sizeOf4
 v4:=Tryz.zeroValue4
 t35:=Tryz.underlying139
 a35:=Tryz.isAgg139
 z35:=Tryz.sizeOf139
 v35:=Tryz.zeroValue139
 t38:=Tryz.underlying191
 a38:=Tryz.isAgg191
 z38:=Tryz.sizeOf191
 v38:=Tryz.zeroValue191 }
