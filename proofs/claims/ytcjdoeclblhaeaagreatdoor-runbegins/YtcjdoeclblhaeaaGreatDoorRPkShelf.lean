/- -/
import Derived.Shelf.Spec.TrailingZeros
import Derived.Ground.Names7Prog
import Derived.Test.YtcjdoeclblhaeaaGreatDoorProg
namespace Go.Proofs
open Go.Shelf
def Tryz.layTzP_ren:Go.Shelf.Ren:=⟨fun|27=>177|28=>221|29=>222|n=>n,fun|25=>81|3=>3|27=>121|22=>191|4=>4|53=>353|0=>0|5=>5|54=>354|n=>n,fun|0=>7|1=>8|n=>n⟩
theorem Tryz.layTzP:Go.Proofs.Lays7.n27 Tryz.prog Tryz.layTzP_ren:={
 mixed:=by kernel_rfl
 f27:=Tryz.func177.trans (congrArg some (by kernel_rfl))
 f28:=Tryz.func221.trans (congrArg some (by kernel_rfl))
 f29:=Tryz.func222.trans (congrArg some (by kernel_rfl))
 t0:=Tryz.underlying0
 a0:=Tryz.isAgg0
 z0:=Tryz.sizeOf0
 v0:=Tryz.zeroValue0
 i0:=by kernel_rfl
 t3:=Tryz.underlying3
 a3:=Tryz.isAgg3
 z3:=Tryz.sizeOf3
 v3:=Tryz.zeroValue3
 i3:=by kernel_rfl
 t4:=Tryz.underlying4
 a4:=Tryz.isAgg4
 z4:=Tryz.sizeOf4
 v4:=Tryz.zeroValue4
 i4:=by kernel_rfl
 t5:=Tryz.underlying5
 a5:=Tryz.isAgg5
 z5:=Tryz.sizeOf5
 v5:=Tryz.zeroValue5
 i5:=by kernel_rfl
 t22:=Tryz.underlying191
 a22:=Tryz.isAgg191
 z22:=Tryz.sizeOf191
 v22:=Tryz.zeroValue191
 i22:=by kernel_rfl
 t25:=Tryz.underlying81
 a25:=Tryz.isAgg81
 z25:=Tryz.sizeOf81
 v25:=Tryz.zeroValue81
 i25:=by kernel_rfl
 t27:=Tryz.underlying121
 a27:=Tryz.isAgg121
 z27:=Tryz.sizeOf121
 v27:=Tryz.zeroValue121
 i27:=by kernel_rfl
 t53:=Tryz.underlying353
 a53:=Tryz.isAgg353
 z53:=Tryz.sizeOf353
 v53:=Tryz.zeroValue353
 i53:=by kernel_rfl
 t54:=Tryz.underlying354
 a54:=Tryz.isAgg354
 z54:=Tryz.sizeOf354
 g0:=by kernel_rfl
 g1:=by kernel_rfl }
end Go.Proofs
