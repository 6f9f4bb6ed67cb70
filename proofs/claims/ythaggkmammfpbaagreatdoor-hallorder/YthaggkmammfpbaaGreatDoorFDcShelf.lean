/- -/
import Derived.Shelf.SlSortCmp.WholeK
import Derived.Ground.SlsfProg
import Derived.Shelf.SlicesQ.IndexFunc
import Derived.Ground.SlgfProg
import Derived.Test.YthaggkmammfpbaaGreatDoorProg
namespace Go.Proofs
open Go.Shelf
def Tryz.laySortC_ren : Go.Shelf.Ren := ⟨fun | 6 => 181 | 15 => 217 | 14 => 233 | 28 => 270 | 29 => 271 | 20 => 280 | 21 => 281 | 22 => 282 | 23 => 283 | 24 => 284 | 25 => 285 | 26 => 286 | 27 => 287 | 46 => 307 | 47 => 299 | 48 => 300 | 49 => 308 | 50 => 309 | 57 => 322 | n => n,fun | 22 => 120 | 24 => 134 | 25 => 214 | 3 => 3 | 39 => 245 | 0 => 0 | 53 => 314 | 55 => 317 | 4 => 4 | 46 => 383 | 45 => 382 | 50 => 163 | 5 => 5 | 9 => 9 | 66 => 420 | 70 => 424 | 76 => 437 | 77 => 373 | n => n,fun | n => n⟩
theorem Tryz.laySortC : Go.Proofs.SlLaysF0.n6 Tryz.prog Tryz.laySortC_ren := {
 mixed := by kernel_rfl
 f6 := ⟨Tryz.f181.name,by decide,Tryz.func181.trans (congrArg some (by kernel_rfl))⟩
 f14 := ⟨Tryz.f233.name,by decide,Tryz.func233.trans (congrArg some (by kernel_rfl))⟩
 f15 := Tryz.func217.trans (congrArg some (by kernel_rfl))
 f20 := ⟨Tryz.f280.name,by decide,Tryz.func280.trans (congrArg some (by kernel_rfl))⟩
 f21 := ⟨Tryz.f281.name,by decide,Tryz.func281.trans (congrArg some (by kernel_rfl))⟩
 f22 := ⟨Tryz.f282.name,by decide,Tryz.func282.trans (congrArg some (by kernel_rfl))⟩
 f23 := ⟨Tryz.f283.name,by decide,Tryz.func283.trans (congrArg some (by kernel_rfl))⟩
 f24 := ⟨Tryz.f284.name,by decide,Tryz.func284.trans (congrArg some (by kernel_rfl))⟩
 f25 := ⟨Tryz.f285.name,by decide,Tryz.func285.trans (congrArg some (by kernel_rfl))⟩
 f26 := ⟨Tryz.f286.name,by decide,Tryz.func286.trans (congrArg some (by kernel_rfl))⟩
 f27 := ⟨Tryz.f287.name,by decide,Tryz.func287.trans (congrArg some (by kernel_rfl))⟩
 f28 := Tryz.func270.trans (congrArg some (by kernel_rfl))
 f29 := Tryz.func271.trans (congrArg some (by kernel_rfl))
 f46 := ⟨Tryz.f307.name,by decide,Tryz.func307.trans (congrArg some (by kernel_rfl))⟩
 f47 := Tryz.func299.trans (congrArg some (by kernel_rfl))
 f48 := Tryz.func300.trans (congrArg some (by kernel_rfl))
 f49 := ⟨Tryz.f308.name,by decide,Tryz.func308.trans (congrArg some (by kernel_rfl))⟩
 f50 := ⟨Tryz.f309.name,by decide,Tryz.func309.trans (congrArg some (by kernel_rfl))⟩
 f57 := ⟨Tryz.f322.name,by decide,Tryz.func322.trans (congrArg some (by kernel_rfl))⟩
 t0 := Tryz.underlying0
 a0 := Tryz.isAgg0
 z0 := Tryz.sizeOf0
 v0 := Tryz.zeroValue0
 t3 := Tryz.underlying3
 a3 := Tryz.isAgg3
 z3 := Tryz.sizeOf3
 v3 := Tryz.zeroValue3
 t4 := Tryz.underlying4
 a4 := Tryz.isAgg4
 z4 := Tryz.sizeOf4
 v4 := Tryz.zeroValue4
 t5 := Tryz.underlying5
 a5 := Tryz.isAgg5
 z5 := Tryz.sizeOf5
 v5 := Tryz.zeroValue5
 t9 := Tryz.underlying9
 a9 := Tryz.isAgg9
 z9 := Tryz.sizeOf9
 v9 := Tryz.zeroValue9
 t22 := Tryz.underlying120
 a22 := Tryz.isAgg120
 z22 := Tryz.sizeOf120
 v22 := Tryz.zeroValue120
 t25 := Tryz.underlying214
 a25 := Tryz.isAgg214
 z25 := Tryz.sizeOf214
 v25 := Tryz.zeroValue214
 t39 := Tryz.underlying245
 a39 := Tryz.isAgg245
 z39 := Tryz.sizeOf245
 v39 := Tryz.zeroValue245
 t45 := Tryz.underlying382
 a45 := Tryz.isAgg382
 z45 := Tryz.sizeOf382
 v45 := Tryz.zeroValue382
 t46 := Tryz.underlying383
 a46 := Tryz.isAgg383
 z46 := Tryz.sizeOf383
 v46 := Tryz.zeroValue383
 t50 := Tryz.underlying163
 a50 := Tryz.isAgg163
 z50 := Tryz.sizeOf163
 v50 := Tryz.zeroValue163
 t53 := Tryz.underlying314
 a53 := Tryz.isAgg314
 z53 := Tryz.sizeOf314
 v53 := Tryz.zeroValue314
 t55 := Tryz.underlying317
 a55 := Tryz.isAgg317
 z55 := Tryz.sizeOf317
 v55 := Tryz.zeroValue317
 t66 := Tryz.underlying420
 a66 := Tryz.isAgg420
 z66 := Tryz.sizeOf420
 v66 := Tryz.zeroValue420
 t70 := Tryz.underlying424
 a70 := Tryz.isAgg424
 z70 := Tryz.sizeOf424
 v70 := Tryz.zeroValue424
 t76 := Tryz.underlying437
 a76 := Tryz.isAgg437
 z76 := Tryz.sizeOf437
 v76 := Tryz.zeroValue437
 t77 := Tryz.underlying373
 a77 := Tryz.isAgg373
 z77 := Tryz.sizeOf373
 v77 := Tryz.zeroValue373 }
end Go.Proofs
