/- Parts. -/
import Derived.Test.YtlemjgjpglmphaaDoorProg
import Derived.Ground.NamesProg
import Derived.Shelf.Sort.Plain
import Derived.Shelf.Slices.Reverse
set_option maxRecDepth 10000
set_option maxHeartbeats 16000000
set_option linter.unusedVariables false
set_option linter.unusedSimpArgs false
namespace Go.Proofs
open Go.Shelf
def Tryd.laysSortI_ren : Go.Shelf.Ren := ⟨fun | 189 => 32 | 125 => 43 | 257 => 42 | 128 => 57 | 129 => 58 | 294 => 48 | 295 => 49 | 296 => 50 | 297 => 51 | 298 => 52 | 299 => 53 | 216 => 54 | 300 => 55 | 301 => 56 | 328 => 67 | 329 => 68 | 330 => 69 | 331 => 70 | 332 => 71 | 215 => 72 | 343 => 76 | n => n, fun | 28 => 29 | 3 => 3 | 46 => 74 | 0 => 0 | 51 => 90 | 53 => 76 | 4 => 4 | 183 => 83 | 182 => 82 | 131 => 87 | 5 => 5 | 9 => 9 | 218 => 97 | 222 => 101 | 228 => 105 | 229 => 106 | n => n, fun | n => n⟩
theorem Tryd.laysSortI : Go.Proofs.Lays.n189 Tryd.prog Tryd.laysSortI_ren := {
 mixed := by kernel_rfl
 f125 := Tryd.func43.trans (congrArg some (by kernel_rfl))
 f128 := Tryd.func57.trans (congrArg some (by kernel_rfl))
 f129 := Tryd.func58.trans (congrArg some (by kernel_rfl))
 f189 := Tryd.func32.trans (congrArg some (by kernel_rfl))
 f215 := Tryd.func72.trans (congrArg some (by kernel_rfl))
 f216 := Tryd.func54.trans (congrArg some (by kernel_rfl))
 f257 := Tryd.func42.trans (congrArg some (by kernel_rfl))
 f294 := Tryd.func48.trans (congrArg some (by kernel_rfl))
 f295 := Tryd.func49.trans (congrArg some (by kernel_rfl))
 f296 := Tryd.func50.trans (congrArg some (by kernel_rfl))
 f297 := Tryd.func51.trans (congrArg some (by kernel_rfl))
 f298 := Tryd.func52.trans (congrArg some (by kernel_rfl))
 f299 := Tryd.func53.trans (congrArg some (by kernel_rfl))
 f300 := Tryd.func55.trans (congrArg some (by kernel_rfl))
 f301 := Tryd.func56.trans (congrArg some (by kernel_rfl))
 f328 := Tryd.func67.trans (congrArg some (by kernel_rfl))
 f329 := Tryd.func68.trans (congrArg some (by kernel_rfl))
 f330 := Tryd.func69.trans (congrArg some (by kernel_rfl))
 f331 := Tryd.func70.trans (congrArg some (by kernel_rfl))
 f332 := Tryd.func71.trans (congrArg some (by kernel_rfl))
 f343 := Tryd.func76.trans (congrArg some (by kernel_rfl))
 t0 := Tryd.underlying0
 a0 := Tryd.isAgg0
 z0 := Tryd.sizeOf0
 v0 := Tryd.zeroValue0
 t3 := Tryd.underlying3
 a3 := Tryd.isAgg3
 z3 := Tryd.sizeOf3
 v3 := Tryd.zeroValue3
 t4 := Tryd.underlying4
 a4 := Tryd.isAgg4
 z4 := Tryd.sizeOf4
 v4 := Tryd.zeroValue4
 t5 := Tryd.underlying5
 a5 := Tryd.isAgg5
 z5 := Tryd.sizeOf5
 v5 := Tryd.zeroValue5
 t9 := Tryd.underlying9
 a9 := Tryd.isAgg9
 z9 := Tryd.sizeOf9
 v9 := Tryd.zeroValue9
 t28 := Tryd.underlying29
 a28 := Tryd.isAgg29
 z28 := Tryd.sizeOf29
 v28 := Tryd.zeroValue29
 t46 := Tryd.underlying74
 a46 := Tryd.isAgg74
 z46 := Tryd.sizeOf74
 v46 := Tryd.zeroValue74
 t51 := Tryd.underlying90
 a51 := Tryd.isAgg90
 z51 := Tryd.sizeOf90
 v51 := Tryd.zeroValue90
 t53 := Tryd.underlying76
 a53 := Tryd.isAgg76
 z53 := Tryd.sizeOf76
 v53 := Tryd.zeroValue76
 t131 := Tryd.underlying87
 a131 := Tryd.isAgg87
 z131 := Tryd.sizeOf87
 v131 := Tryd.zeroValue87
 t182 := Tryd.underlying82
 a182 := Tryd.isAgg82
 z182 := Tryd.sizeOf82
 v182 := Tryd.zeroValue82
 t183 := Tryd.underlying83
 a183 := Tryd.isAgg83
 z183 := Tryd.sizeOf83
 v183 := Tryd.zeroValue83
 t218 := Tryd.underlying97
 a218 := Tryd.isAgg97
 z218 := Tryd.sizeOf97
 v218 := Tryd.zeroValue97
 t222 := Tryd.underlying101
 a222 := Tryd.isAgg101
 z222 := Tryd.sizeOf101
 v222 := Tryd.zeroValue101
 t228 := Tryd.underlying105
 a228 := Tryd.isAgg105
 z228 := Tryd.sizeOf105
 v228 := Tryd.zeroValue105
 t229 := Tryd.underlying106
 a229 := Tryd.isAgg106
 z229 := Tryd.sizeOf106
 v229 := Tryd.zeroValue106 }
def Tryd.laysReverse_ren : Go.Shelf.Ren := ⟨fun | 112 => 29 | n => n, fun | 28 => 29 | 3 => 3 | 4 => 4 | 0 => 0 | n => n, fun | n => n⟩
theorem Tryd.laysReverse : Go.Proofs.Lays.n112 Tryd.prog Tryd.laysReverse_ren := {
 mixed := by kernel_rfl
 f112 := Tryd.func29.trans (congrArg some (by kernel_rfl))
 t0 := Tryd.underlying0
 a0 := Tryd.isAgg0
 z0 := Tryd.sizeOf0
 v0 := Tryd.zeroValue0
 t3 := Tryd.underlying3
 a3 := Tryd.isAgg3
 z3 := Tryd.sizeOf3
 v3 := Tryd.zeroValue3
 t4 := Tryd.underlying4
 a4 := Tryd.isAgg4
 z4 := Tryd.sizeOf4
 v4 := Tryd.zeroValue4
 t28 := Tryd.underlying29
 a28 := Tryd.isAgg29
 z28 := Tryd.sizeOf29
 v28 := Tryd.zeroValue29 }
end Go.Proofs
