/- -/
import Derived.Shelf.SlSorted.Search
import Derived.Ground.SlsoProg
import Derived.Test.YthaggkmammfpbaaGreatDoorProg
namespace Go.Proofs
open Go.Shelf
def Tryz.laySearch_ren : Go.Shelf.Ren := ⟨fun | 16 => 260 | n => n,fun | 3 => 3 | 35 => 221 | 4 => 4 | 38 => 245 | n => n,fun | n => n⟩
theorem Tryz.laySearch : Go.Proofs.SlLaysO.n16 Tryz.prog Tryz.laySearch_ren := {
 mixed := by kernel_rfl
 f16 := Tryz.func260.trans (congrArg some (by kernel_rfl))
 t3 := Tryz.underlying3
 a3 := Tryz.isAgg3
 z3 := Tryz.sizeOf3
 v3 := Tryz.zeroValue3
 t4 := Tryz.underlying4
 a4 := Tryz.isAgg4
 z4 := Tryz.sizeOf4
 v4 := Tryz.zeroValue4
 t35 := Tryz.underlying221
 a35 := Tryz.isAgg221
 z35 := Tryz.sizeOf221
 v35 := Tryz.zeroValue221
 t38 := Tryz.underlying245
 a38 := Tryz.isAgg245
 z38 := Tryz.sizeOf245
 v38 := Tryz.zeroValue245 }
end Go.Proofs
