/- Parts. -/
import Derived.Test.YtlemjgjpglmphaaDoorProg
import Derived.Ground.SlsfProg
import Derived.Shelf.SlSortCmp.Whole1
import Derived.Shelf.SlGeneric
set_option maxRecDepth 10000
set_option maxHeartbeats 16000000
set_option linter.unusedVariables false
set_option linter.unusedSimpArgs false
namespace Go.Proofs
open Go.Shelf
def Tryd.laysSort_ren : Go.Shelf.Ren := ⟨fun | 6 => 33 | 15 => 43 | 14 => 44 | 28 => 57 | 29 => 58 | 20 => 59 | 21 => 60 | 22 => 61 | 23 => 62 | 24 => 63 | 25 => 64 | 26 => 65 | 27 => 66 | 46 => 73 | 47 => 68 | 48 => 69 | 49 => 74 | 50 => 75 | 57 => 77 | n => n, fun | 22 => 25 | 24 => 29 | 25 => 58 | 3 => 3 | 39 => 74 | 0 => 0 | 53 => 90 | 55 => 76 | 4 => 4 | 46 => 83 | 45 => 82 | 50 => 87 | 5 => 5 | 9 => 9 | 66 => 97 | 70 => 101 | 76 => 105 | 77 => 106 | n => n, fun | n => n⟩
theorem Tryd.laysSort : Go.Proofs.SlLaysF.n6 Tryd.prog Tryd.laysSort_ren := {
 mixed := by kernel_rfl
 f6 := ⟨Tryd.f33.name, by decide, Tryd.func33.trans (congrArg some (by kernel_rfl))⟩
 f14 := ⟨Tryd.f44.name, by decide, Tryd.func44.trans (congrArg some (by kernel_rfl))⟩
 f15 := Tryd.func43.trans (congrArg some (by kernel_rfl))
 f20 := ⟨Tryd.f59.name, by decide, Tryd.func59.trans (congrArg some (by kernel_rfl))⟩
 f21 := ⟨Tryd.f60.name, by decide, Tryd.func60.trans (congrArg some (by kernel_rfl))⟩
 f22 := ⟨Tryd.f61.name, by decide, Tryd.func61.trans (congrArg some (by kernel_rfl))⟩
 f23 := ⟨Tryd.f62.name, by decide, Tryd.func62.trans (congrArg some (by kernel_rfl))⟩
 f24 := ⟨Tryd.f63.name, by decide, Tryd.func63.trans (congrArg some (by kernel_rfl))⟩
 f25 := ⟨Tryd.f64.name, by decide, Tryd.func64.trans (congrArg some (by kernel_rfl))⟩
 f26 := ⟨Tryd.f65.name, by decide, Tryd.func65.trans (congrArg some (by kernel_rfl))⟩
 f27 := ⟨Tryd.f66.name, by decide, Tryd.func66.trans (congrArg some (by kernel_rfl))⟩
 f28 := Tryd.func57.trans (congrArg some (by kernel_rfl))
 f29 := Tryd.func58.trans (congrArg some (by kernel_rfl))
 f46 := ⟨Tryd.f73.name, by decide, Tryd.func73.trans (congrArg some (by kernel_rfl))⟩
 f47 := Tryd.func68.trans (congrArg some (by kernel_rfl))
 f48 := Tryd.func69.trans (congrArg some (by kernel_rfl))
 f49 := ⟨Tryd.f74.name, by decide, Tryd.func74.trans (congrArg some (by kernel_rfl))⟩
 f50 := ⟨Tryd.f75.name, by decide, Tryd.func75.trans (congrArg some (by kernel_rfl))⟩
 f57 := ⟨Tryd.f77.name, by decide, Tryd.func77.trans (congrArg some (by kernel_rfl))⟩
 t0 := Tryd.underlying0
 a0 := Tryd.isAgg0
 z0 := Tryd.sizeOf0
 v0 := Tryd.zeroValue0
 t3 := Tryd.underlying3
 a3 := Tryd.isAgg3
 z3 := Tryd.sizeOf3
 v3 := Tryd.zeroValue3
 t4 := Tryd.underlying4
 a4 := Tryd.isAgg4
 z4 := Tryd.sizeOf4
 v4 := Tryd.zeroValue4
 t5 := Tryd.underlying5
 a5 := Tryd.isAgg5
 z5 := Tryd.sizeOf5
 v5 := Tryd.zeroValue5
 t9 := Tryd.underlying9
 a9 := Tryd.isAgg9
 z9 := Tryd.sizeOf9
 v9 := Tryd.zeroValue9
 t22 := Tryd.underlying25
 a22 := Tryd.isAgg25
 z22 := Tryd.sizeOf25
 v22 := Tryd.zeroValue25
 a24 := Tryd.isAgg29
 z24 := Tryd.sizeOf29
 t25 := Tryd.underlying58
 a25 := Tryd.isAgg58
 z25 := Tryd.sizeOf58
 v25 := Tryd.zeroValue58
 t39 := Tryd.underlying74
 a39 := Tryd.isAgg74
 z39 := Tryd.sizeOf74
 v39 := Tryd.zeroValue74
 t45 := Tryd.underlying82
 a45 := Tryd.isAgg82
 z45 := Tryd.sizeOf82
 v45 := Tryd.zeroValue82
 t46 := Tryd.underlying83
 a46 := Tryd.isAgg83
 z46 := Tryd.sizeOf83
 v46 := Tryd.zeroValue83
 t50 := Tryd.underlying87
 a50 := Tryd.isAgg87
 z50 := Tryd.sizeOf87
 v50 := Tryd.zeroValue87
 t53 := Tryd.underlying90
 a53 := Tryd.isAgg90
 z53 := Tryd.sizeOf90
 v53 := Tryd.zeroValue90
 t55 := Tryd.underlying76
 a55 := Tryd.isAgg76
 z55 := Tryd.sizeOf76
 v55 := Tryd.zeroValue76
 t66 := Tryd.underlying97
 a66 := Tryd.isAgg97
 z66 := Tryd.sizeOf97
 v66 := Tryd.zeroValue97
 t70 := Tryd.underlying101
 a70 := Tryd.isAgg101
 z70 := Tryd.sizeOf101
 v70 := Tryd.zeroValue101
 t76 := Tryd.underlying105
 a76 := Tryd.isAgg105
 z76 := Tryd.sizeOf105
 v76 := Tryd.zeroValue105
 t77 := Tryd.underlying106
 a77 := Tryd.isAgg106
 z77 := Tryd.sizeOf106
 v77 := Tryd.zeroValue106 }
end Go.Proofs
