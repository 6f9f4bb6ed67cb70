/- -/
import Derived.Shelf.Spec.TrailingZeros
import Derived.Ground.Names7Prog
import Derived.Test.YthaggkmammfpbaaGreatDoorProg
namespace Go.Proofs
open Go.Shelf
def Tryz.layTzP_ren : Go.Shelf.Ren := ⟨fun | 27 => 336 | 28 => 348 | 29 => 349 | n => n,fun | 25 => 245 | 3 => 3 | 27 => 314 | 22 => 317 | 4 => 4 | 53 => 465 | 0 => 0 | 5 => 5 | 54 => 466 | n => n,fun | 0 => 3 | 1 => 4 | n => n⟩
theorem Tryz.layTzP : Go.Proofs.Lays7.n27 Tryz.prog Tryz.layTzP_ren := {
 mixed := by kernel_rfl
 f27 := Tryz.func336.trans (congrArg some (by kernel_rfl))
 f28 := Tryz.func348.trans (congrArg some (by kernel_rfl))
 f29 := Tryz.func349.trans (congrArg some (by kernel_rfl))
 t0 := Tryz.underlying0
 a0 := Tryz.isAgg0
 z0 := Tryz.sizeOf0
 v0 := Tryz.zeroValue0
 i0 := by kernel_rfl
 t3 := Tryz.underlying3
 a3 := Tryz.isAgg3
 z3 := Tryz.sizeOf3
 v3 := Tryz.zeroValue3
 i3 := by kernel_rfl
 t4 := Tryz.underlying4
 a4 := Tryz.isAgg4
 z4 := Tryz.sizeOf4
 v4 := Tryz.zeroValue4
 i4 := by kernel_rfl
 t5 := Tryz.underlying5
 a5 := Tryz.isAgg5
 z5 := Tryz.sizeOf5
 v5 := Tryz.zeroValue5
 i5 := by kernel_rfl
 t22 := Tryz.underlying317
 a22 := Tryz.isAgg317
 z22 := Tryz.sizeOf317
 v22 := Tryz.zeroValue317
 i22 := by kernel_rfl
 t25 := Tryz.underlying245
 a25 := Tryz.isAgg245
 z25 := Tryz.sizeOf245
 v25 := Tryz.zeroValue245
 i25 := by kernel_rfl
 t27 := Tryz.underlying314
 a27 := Tryz.isAgg314
 z27 := Tryz.sizeOf314
 v27 := Tryz.zeroValue314
 i27 := by kernel_rfl
 t53 := Tryz.underlying465
 a53 := Tryz.isAgg465
 z53 := Tryz.sizeOf465
 v53 := Tryz.zeroValue465
 i53 := by kernel_rfl
 t54 := Tryz.underlying466
 a54 := Tryz.isAgg466
 z54 := Tryz.sizeOf466
 g0 := by kernel_rfl
 g1 := by kernel_rfl }
end Go.Proofs
