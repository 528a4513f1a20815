/- Parts. -/
import Derived.Test.YtojpohmijlkagaaDoorLaw43AllK7
import Derived.Shelf.Strings.Cut
import Derived.Shelf.Strings.Search3
set_option maxRecDepth 10000
set_option maxHeartbeats 16000000
set_option linter.unusedVariables false
set_option linter.unusedSimpArgs false
namespace Go.Proofs.YtojpohmijlkagaaDoor
open Go.RowKit
open Go.Lib hiding intOf
attribute [local go_sem ↓] Go.wp_at_zero Go.wp_at_succ
theorem runes_any (s : ByteArray) (w : World) (hs : s.size ≤ 9223372036854775807) (hT : UTabs w) :
  Calls Tryd.prog 37 #[.string s] w fun e w' => e = .returned (.tuple #[.int .i64 (if validD (by_ s) = true then (runeCount s : Int) else 0), .bool (validD (by_ s))]) ∧ Only [] w w' := by
 have HV := Hd (valid_any s w hs hT);have hle := runeCount_le s;obtain ⟨vb, hvb⟩ : ∃ vb, vb = validD (by_ s) := ⟨_, rfl⟩;rw [← hvb] at HV ⊢;clear hvb hT
 cases vb with
 | false =>
  rw [if_neg (by simp)];go_enter Tryd.func37, Tryd.ntmps37;go_wp2_with fail
  refine (HV.out).mono ?_;rintro e w1 ⟨rfl, hO⟩;go_wp2
  go_ret2
  exact ⟨rfl, hO⟩
 | true =>
  rw [if_pos rfl];obtain ⟨R, hR⟩ : ∃ R, R = runeCount s := ⟨_, rfl⟩;rw [← hR] at hle ⊢;have HRC : Hid (R = runeCountFrom s s.size 0) := Hd hR;clear hR;go_enter Tryd.func37, Tryd.ntmps37;go_wp2_with fail
  refine (HV.out).mono ?_;rintro e w1 ⟨rfl, hO⟩;have HO := Hd hO;clear hO HV;go_wp2
  go_loopw [4] (fun nn wr => ∃ (pos b k : Nat), nn = .int .i64 k ∧ pos ≤ s.size ∧ s.size ≤ pos + b ∧ k ≤ R ∧ Hid (runeCountFrom s b pos + k = R) ∧ Hid (wr.heap[w1.heap.size]? = some (.stringIter s pos)) ∧ Hid (Only [] w1 wr)) (fun _ wr => s.size - wr.iterPos w1.heap.size)
  case atStart => exact ⟨0, s.size, 0, rfl, by omega, by omega, by omega, Hd (by rw [HRC.out]; rfl), Hd (World.iter_heap w1 s 0), Hd ((Only.refl [] w1).alloc _)⟩
  case round =>
   obtain ⟨pos, b, k, rfl, hpos, hb, hkR, HC, HIT, HO1⟩ := hrel
   by_cases hp : pos < s.size
   ·have hnx : ∀ ty, (Instr.next (.pointer (some ⟨w1.heap.size, 0, none⟩)) true ty).run Tryd.prog wr = _ := fun ty => run_next_any_at wr w1.heap.size s pos ty HIT.out hp;have hwd := width_le s pos hp;have hip := iterPos_of HIT.out;have HIT2 := Hd (iterAt_heap wr w1.heap.size s pos (pos + (Utf8.decode s pos).2) HIT.out);have HO2 := Hd (only_iter HO1.out s (pos + (Utf8.decode s pos).2) (k := w1.heap.size) (fun h => by omega));have hip2 := iterPos_of HIT2.out;obtain ⟨b', rfl⟩ : ∃ b', b = b' + 1 := ⟨b - 1, by omega⟩;have hst : runeCountFrom s (b' + 1) pos = 1 + runeCountFrom s b' (pos + (Utf8.decode s pos).2) := by
     rw [runeCountFrom, if_pos hp]
    have hcc := HC.out;rw [hst] at hcc;have hk1 : k + 1 ≤ R := by omega
    have HC2 : Hid (runeCountFrom s b' (pos + (Utf8.decode s pos).2) + (k + 1) = R) := Hd (by omega);obtain ⟨wd, hwde⟩ : ∃ wd, wd = (Utf8.decode s pos).2 := ⟨_, rfl⟩;rw [← hwde] at hnx HIT2 HO2 hwd hip2 HC2;generalize (Utf8.decode s pos).1 = rn at *;clear hst hcc hwde HC HIT HO1;go_wp2
    go_roundw
    case rel => exact ⟨pos + wd, b', k + 1, by go_num, by omega, by omega, by omega, HC2, HIT2, HO2⟩
    case measure => rw [hip, hip2]; omega
   ·have hnx : ∀ ty, (Instr.next (.pointer (some ⟨w1.heap.size, 0, none⟩)) true ty).run Tryd.prog wr = _ := fun ty => run_next_end_at wr w1.heap.size s pos ty HIT.out hp;have hcc := HC.out;rw [runeCountFrom_end s b pos hp] at hcc;have hkR2 : k = R := by omega
    subst hkR2;clear hcc;go_wp2
    go_ret2
    exact ⟨rfl, HO.out.trans HO1.out⟩
end Go.Proofs.YtojpohmijlkagaaDoor
namespace Go.Proofs
open Go.Shelf
def Tryd.laysCut_ren : Go.Shelf.Ren := ⟨fun | 145 => 39 | 220 => 53 | 219 => 60 | 217 => 64 | 225 => 65 | 224 => 66 | 267 => 67 | 266 => 70 | 314 => 71 | n => n, fun | 9 => 9 | 4 => 4 | 59 => 80 | 3 => 3 | 5 => 5 | 46 => 100 | 146 => 113 | 51 => 112 | n => n, fun | 1 => 5 | n => n⟩
theorem Tryd.laysCut : Go.Proofs.Lays.n145 Tryd.prog Tryd.laysCut_ren := {
 mixed := by kernel_rfl
 f145 := Tryd.func39.trans (congrArg some (by kernel_rfl))
 f217 := Tryd.func64.trans (congrArg some (by kernel_rfl))
 f219 := Tryd.func60.trans (congrArg some (by kernel_rfl))
 f220 := Tryd.func53.trans (congrArg some (by kernel_rfl))
 f224 := Tryd.func66.trans (congrArg some (by kernel_rfl))
 f225 := Tryd.func65.trans (congrArg some (by kernel_rfl))
 f266 := Tryd.func70.trans (congrArg some (by kernel_rfl))
 f267 := Tryd.func67.trans (congrArg some (by kernel_rfl))
 f314 := Tryd.func71.trans (congrArg some (by kernel_rfl))
 t3 := Tryd.underlying3
 a3 := Tryd.isAgg3
 z3 := Tryd.sizeOf3
 v3 := Tryd.zeroValue3
 t4 := Tryd.underlying4
 a4 := Tryd.isAgg4
 z4 := Tryd.sizeOf4
 v4 := Tryd.zeroValue4
 t5 := Tryd.underlying5
 a5 := Tryd.isAgg5
 z5 := Tryd.sizeOf5
 v5 := Tryd.zeroValue5
 t9 := Tryd.underlying9
 a9 := Tryd.isAgg9
 z9 := Tryd.sizeOf9
 v9 := Tryd.zeroValue9
 t46 := Tryd.underlying100
 a46 := Tryd.isAgg100
 z46 := Tryd.sizeOf100
 v46 := Tryd.zeroValue100
 t51 := Tryd.underlying112
 a51 := Tryd.isAgg112
 z51 := Tryd.sizeOf112
 v51 := Tryd.zeroValue112
 t59 := Tryd.underlying80
 a59 := Tryd.isAgg80
 z59 := Tryd.sizeOf80
 v59 := Tryd.zeroValue80
 t146 := Tryd.underlying113
 a146 := Tryd.isAgg113
 z146 := Tryd.sizeOf113
 v146 := Tryd.zeroValue113
 g1 := by kernel_rfl }
def Tryd.laysContains_ren : Go.Shelf.Ren := ⟨fun | 144 => 38 | 143 => 52 | 219 => 60 | 217 => 64 | 225 => 65 | 224 => 66 | 267 => 67 | 266 => 70 | 314 => 71 | n => n, fun | 9 => 9 | 4 => 4 | 3 => 3 | 5 => 5 | 46 => 100 | 146 => 113 | 51 => 112 | n => n, fun | 1 => 5 | n => n⟩
theorem Tryd.laysContains : Go.Proofs.Lays.n144 Tryd.prog Tryd.laysContains_ren := {
 mixed := by kernel_rfl
 f143 := Tryd.func52.trans (congrArg some (by kernel_rfl))
 f144 := Tryd.func38.trans (congrArg some (by kernel_rfl))
 f217 := Tryd.func64.trans (congrArg some (by kernel_rfl))
 f219 := Tryd.func60.trans (congrArg some (by kernel_rfl))
 f224 := Tryd.func66.trans (congrArg some (by kernel_rfl))
 f225 := Tryd.func65.trans (congrArg some (by kernel_rfl))
 f266 := Tryd.func70.trans (congrArg some (by kernel_rfl))
 f267 := Tryd.func67.trans (congrArg some (by kernel_rfl))
 f314 := Tryd.func71.trans (congrArg some (by kernel_rfl))
 t3 := Tryd.underlying3
 a3 := Tryd.isAgg3
 z3 := Tryd.sizeOf3
 v3 := Tryd.zeroValue3
 t4 := Tryd.underlying4
 a4 := Tryd.isAgg4
 z4 := Tryd.sizeOf4
 v4 := Tryd.zeroValue4
 t5 := Tryd.underlying5
 a5 := Tryd.isAgg5
 z5 := Tryd.sizeOf5
 v5 := Tryd.zeroValue5
 t9 := Tryd.underlying9
 a9 := Tryd.isAgg9
 z9 := Tryd.sizeOf9
 v9 := Tryd.zeroValue9
 t46 := Tryd.underlying100
 a46 := Tryd.isAgg100
 z46 := Tryd.sizeOf100
 v46 := Tryd.zeroValue100
 t51 := Tryd.underlying112
 a51 := Tryd.isAgg112
 z51 := Tryd.sizeOf112
 v51 := Tryd.zeroValue112
 t146 := Tryd.underlying113
 a146 := Tryd.isAgg113
 z146 := Tryd.sizeOf113
 v146 := Tryd.zeroValue113
 g1 := by kernel_rfl }
end Go.Proofs
