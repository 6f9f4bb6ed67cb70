/- -/
import Derived.Shelf.Spec.TrailingZeros
import Derived.Shelf.SlSortCmp.WholeK
import Derived.Ground.SlsfProg
import Derived.Ground.Names7Prog
import Derived.Test.YthaggkmammfpbaaGreatDoorProg
namespace Go.Proofs
open Go.Shelf
def Tryz.laySortS_ren : Go.Shelf.Ren := ⟨fun | 6 => 337 | 15 => 217 | 14 => 350 | 28 => 270 | 29 => 271 | 20 => 358 | 21 => 359 | 22 => 360 | 23 => 361 | 24 => 362 | 25 => 363 | 26 => 364 | 27 => 365 | 46 => 368 | 47 => 299 | 48 => 300 | 49 => 369 | 50 => 370 | 57 => 380 | n => n,fun | 22 => 370 | 24 => 231 | 25 => 453 | 3 => 3 | 39 => 245 | 0 => 0 | 53 => 314 | 55 => 317 | 4 => 4 | 46 => 383 | 45 => 382 | 50 => 163 | 5 => 5 | 9 => 9 | 66 => 420 | 70 => 424 | 76 => 437 | 77 => 373 | n => n,fun | n => n⟩
theorem Tryz.laySortS : Go.Proofs.SlLaysF0.n6 Tryz.prog Tryz.laySortS_ren := {
 mixed := by kernel_rfl
 f6 := ⟨Tryz.f337.name,by decide,Tryz.func337.trans (congrArg some (by kernel_rfl))⟩
 f14 := ⟨Tryz.f350.name,by decide,Tryz.func350.trans (congrArg some (by kernel_rfl))⟩
 f15 := Tryz.func217.trans (congrArg some (by kernel_rfl))
 f20 := ⟨Tryz.f358.name,by decide,Tryz.func358.trans (congrArg some (by kernel_rfl))⟩
 f21 := ⟨Tryz.f359.name,by decide,Tryz.func359.trans (congrArg some (by kernel_rfl))⟩
 f22 := ⟨Tryz.f360.name,by decide,Tryz.func360.trans (congrArg some (by kernel_rfl))⟩
 f23 := ⟨Tryz.f361.name,by decide,Tryz.func361.trans (congrArg some (by kernel_rfl))⟩
 f24 := ⟨Tryz.f362.name,by decide,Tryz.func362.trans (congrArg some (by kernel_rfl))⟩
 f25 := ⟨Tryz.f363.name,by decide,Tryz.func363.trans (congrArg some (by kernel_rfl))⟩
 f26 := ⟨Tryz.f364.name,by decide,Tryz.func364.trans (congrArg some (by kernel_rfl))⟩
 f27 := ⟨Tryz.f365.name,by decide,Tryz.func365.trans (congrArg some (by kernel_rfl))⟩
 f28 := Tryz.func270.trans (congrArg some (by kernel_rfl))
 f29 := Tryz.func271.trans (congrArg some (by kernel_rfl))
 f46 := ⟨Tryz.f368.name,by decide,Tryz.func368.trans (congrArg some (by kernel_rfl))⟩
 f47 := Tryz.func299.trans (congrArg some (by kernel_rfl))
 f48 := Tryz.func300.trans (congrArg some (by kernel_rfl))
 f49 := ⟨Tryz.f369.name,by decide,Tryz.func369.trans (congrArg some (by kernel_rfl))⟩
 f50 := ⟨Tryz.f370.name,by decide,Tryz.func370.trans (congrArg some (by kernel_rfl))⟩
 f57 := ⟨Tryz.f380.name,by decide,Tryz.func380.trans (congrArg some (by kernel_rfl))⟩
 t0 := Tryz.underlying0
 a0 := Tryz.isAgg0
 z0 := Tryz.sizeOf0
 v0 := Tryz.zeroValue0
 t3 := Tryz.underlying3
 a3 := Tryz.isAgg3
 z3 := Tryz.sizeOf3
 v3 := Tryz.zeroValue3
 t4 := Tryz.underlying4
 a4 := Tryz.isAgg4
 z4 := Tryz.sizeOf4
 v4 := Tryz.zeroValue4
 t5 := Tryz.underlying5
 a5 := Tryz.isAgg5
 z5 := Tryz.sizeOf5
 v5 := Tryz.zeroValue5
 t9 := Tryz.underlying9
 a9 := Tryz.isAgg9
 z9 := Tryz.sizeOf9
 v9 := Tryz.zeroValue9
 t22 := Tryz.underlying370
 a22 := Tryz.isAgg370
 z22 := Tryz.sizeOf370
 v22 := Tryz.zeroValue370
 t25 := Tryz.underlying453
 a25 := Tryz.isAgg453
 z25 := Tryz.sizeOf453
 v25 := Tryz.zeroValue453
 t39 := Tryz.underlying245
 a39 := Tryz.isAgg245
 z39 := Tryz.sizeOf245
 v39 := Tryz.zeroValue245
 t45 := Tryz.underlying382
 a45 := Tryz.isAgg382
 z45 := Tryz.sizeOf382
 v45 := Tryz.zeroValue382
 t46 := Tryz.underlying383
 a46 := Tryz.isAgg383
 z46 := Tryz.sizeOf383
 v46 := Tryz.zeroValue383
 t50 := Tryz.underlying163
 a50 := Tryz.isAgg163
 z50 := Tryz.sizeOf163
 v50 := Tryz.zeroValue163
 t53 := Tryz.underlying314
 a53 := Tryz.isAgg314
 z53 := Tryz.sizeOf314
 v53 := Tryz.zeroValue314
 t55 := Tryz.underlying317
 a55 := Tryz.isAgg317
 z55 := Tryz.sizeOf317
 v55 := Tryz.zeroValue317
 t66 := Tryz.underlying420
 a66 := Tryz.isAgg420
 z66 := Tryz.sizeOf420
 v66 := Tryz.zeroValue420
 t70 := Tryz.underlying424
 a70 := Tryz.isAgg424
 z70 := Tryz.sizeOf424
 v70 := Tryz.zeroValue424
 t76 := Tryz.underlying437
 a76 := Tryz.isAgg437
 z76 := Tryz.sizeOf437
 v76 := Tryz.zeroValue437
 t77 := Tryz.underlying373
 a77 := Tryz.isAgg373
 z77 := Tryz.sizeOf373
 v77 := Tryz.zeroValue373 }
end Go.Proofs
