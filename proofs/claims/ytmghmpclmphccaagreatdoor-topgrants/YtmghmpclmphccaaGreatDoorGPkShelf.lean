/- -/
import Derived.Shelf.Spec.TrailingZeros
import Derived.Test.YtmghmpclmphccaaGreatDoorProg
namespace Go.Proofs
open Go.Shelf
def Tryz.RQ:Go.Shelf.Ren:=⟨fun|27=>272|28=>281|29=>282|n=>n,fun|25=>191|3=>3|27=>251|22=>254|4=>4|53=>377|0=>0|5=>5|54=>378|n=>n,fun|0=>2|1=>3|n=>n⟩
theorem Tryz.layTzP:Go.Proofs.Lays7.n27 Tryz.prog Tryz.RQ:={
 mixed:=by kernel_rfl
 f27:=Tryz.func272.trans (congrArg some (by kernel_rfl))
 f28:=Tryz.func281.trans (congrArg some (by kernel_rfl))
 f29:=Tryz.func282.trans (congrArg some (by kernel_rfl))
 t0:=Tryz.underlying0
 a0:=Tryz.isAgg0
 z0:=Tryz.sizeOf0
 v0:=Tryz.zeroValue0
 i0:=by kernel_rfl
 t3:=Tryz.underlying3
 a3:=Tryz.isAgg3
 z3:=Tryz.sizeOf3
 v3:=Tryz.zeroValue3
 i3:=by kernel_rfl
 t4:=Tryz.underlying4
 a4:=Tryz.isAgg4
 z4:=Tryz.sizeOf4
 v4:=Tryz.zeroValue4
 i4:=by kernel_rfl
 t5:=Tryz.underlying5
 a5:=Tryz.isAgg5
 z5:=Tryz.sizeOf5
 v5:=Tryz.zeroValue5
 i5:=by kernel_rfl
 t22:=Tryz.underlying254
 a22:=Tryz.isAgg254
 z22:=Tryz.sizeOf254
 v22:=Tryz.zeroValue254
 i22:=by kernel_rfl
 t25:=Tryz.underlying191
 a25:=Tryz.isAgg191
 z25:=Tryz.sizeOf191
 v25:=Tryz.zeroValue191
 i25:=by kernel_rfl
 t27:=Tryz.underlying251
 a27:=Tryz.isAgg251
 z27:=Tryz.sizeOf251
 v27:=Tryz.zeroValue251
 i27:=by kernel_rfl
 t53:=Tryz.underlying377
 a53:=Tryz.isAgg377
 z53:=Tryz.sizeOf377
 v53:=Tryz.zeroValue377
 i53:=by kernel_rfl
 t54:=Tryz.underlying378
 a54:=Tryz.isAgg378
 z54:=Tryz.sizeOf378
 g0:=by kernel_rfl
 g1:=by kernel_rfl }
