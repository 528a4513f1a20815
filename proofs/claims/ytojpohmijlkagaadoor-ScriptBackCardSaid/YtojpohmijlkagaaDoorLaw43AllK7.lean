/- Parts. -/
import Derived.Test.YtojpohmijlkagaaDoorLaw43AllK6
import Derived.OwnWalk
import Derived.Test.YtojpohmijlkagaaDoorProg
import Derived.Ground.NamesProg
import Derived.Shelf.Unicode.ValidAny
import Derived.Lib.OthersKept
import Derived.Laws.RangeString
import Derived.Laws.RangeAny
import Derived.Laws.Strings2
import Derived.WalkSmall
set_option maxRecDepth 10000
set_option maxHeartbeats 16000000
set_option linter.unusedVariables false
set_option linter.unusedSimpArgs false
namespace Go.Proofs.YtojpohmijlkagaaDoor
open Go.RowKit
open Go.Lib
attribute [local go_sem ↓] Go.wp_at_zero Go.wp_at_succ

end Go.Proofs.YtojpohmijlkagaaDoor
namespace Go.Proofs
open Go.Shelf
def Tryd.laysValid_ren : Go.Shelf.Ren := ⟨fun | 196 => 36 | 259 => 51 | n => n, fun | 9 => 9 | 4 => 4 | 3 => 3 | 5 => 5 | 12 => 12 | 119 => 96 | 0 => 0 | 46 => 100 | 139 => 99 | 138 => 98 | 53 => 104 | n => n, fun | 3 => 3 | 4 => 4 | n => n⟩
theorem Tryd.laysValid : Go.Proofs.Lays.n196 Tryd.prog Tryd.laysValid_ren := {
 mixed := by kernel_rfl
 f196 := Tryd.func36.trans (congrArg some (by kernel_rfl))
 f259 := Tryd.func51.trans (congrArg some (by kernel_rfl))
 t0 := Tryd.underlying0
 a0 := Tryd.isAgg0
 z0 := Tryd.sizeOf0
 v0 := Tryd.zeroValue0
 t3 := Tryd.underlying3
 a3 := Tryd.isAgg3
 z3 := Tryd.sizeOf3
 v3 := Tryd.zeroValue3
 t4 := Tryd.underlying4
 a4 := Tryd.isAgg4
 z4 := Tryd.sizeOf4
 v4 := Tryd.zeroValue4
 t5 := Tryd.underlying5
 a5 := Tryd.isAgg5
 z5 := Tryd.sizeOf5
 v5 := Tryd.zeroValue5
 t9 := Tryd.underlying9
 a9 := Tryd.isAgg9
 z9 := Tryd.sizeOf9
 v9 := Tryd.zeroValue9
 t12 := Tryd.underlying12
 a12 := Tryd.isAgg12
 z12 := Tryd.sizeOf12
 v12 := Tryd.zeroValue12
 t46 := Tryd.underlying100
 a46 := Tryd.isAgg100
 z46 := Tryd.sizeOf100
 v46 := Tryd.zeroValue100
 t53 := Tryd.underlying104
 a53 := Tryd.isAgg104
 z53 := Tryd.sizeOf104
 v53 := Tryd.zeroValue104
 t119 := Tryd.underlying96
 a119 := Tryd.isAgg96
 z119 := Tryd.sizeOf96
 t138 := Tryd.underlying98
 a138 := Tryd.isAgg98
 z138 := Tryd.sizeOf98
 v138 := Tryd.zeroValue98
 t139 := Tryd.underlying99
 a139 := Tryd.isAgg99
 z139 := Tryd.sizeOf99
 v139 := Tryd.zeroValue99
 g3 := by kernel_rfl
 g4 := by kernel_rfl }
end Go.Proofs
namespace Go.Proofs.YtojpohmijlkagaaDoor
open Go.RowKit Go.Lib
theorem only_iter {w w' : World} {S : List Nat} (h : Only S w w') {k : Nat} (s : ByteArray) (pos : Nat) (hk : k < w.heap.size → k ∈ S) : Only S w (w'.iterAt k s pos) :=
 ⟨h.os, h.tape, h.output, by rw [iterAt_size]; exact h.size, fun i hi hs => by
  rw [iterAt_other w' k i s pos (fun e => hs (e ▸ hk (e ▸ hi)))];exact h.keeps i hi hs⟩
theorem own_iter {w : World} {base : Nat} {e : TypeId} {size : Nat} {v : Value} {n : Nat} {xs : List Value} (h : w.ownsRow base e size v n xs) {k : Nat} {s : ByteArray} {pos : Nat} (hk : w.heap[k]? = some (.stringIter s pos)) (pos' : Nat) : (w.iterAt k s pos').ownsRow base e size v n xs := by
 have hO : Only [k] w (w.iterAt k s pos') := only_iter (Only.refl [k] w) s pos' (by simp);refine own_only h hO (fun g hg hm => ?_);simp at hm;subst hm;obtain ⟨cur, hcur⟩ := own_blk h hg;unfold Blk at hcur;rw [hk] at hcur
 cases hcur
theorem tinfo_string : (Tryd.prog.info? 9).map (fun i => (i.zero, i.size, i.bytes)) = some (some (.string ⟨#[]⟩), 1, 16) := by kernel_rfl
def strs (xs : List ByteArray) : List Value := xs.map Value.string
end Go.Proofs.YtojpohmijlkagaaDoor
namespace Go.Proofs.YtojpohmijlkagaaDoor
open Go.RowKit
open Go.Lib hiding intOf
attribute [local go_sem ↓] Go.wp_at_zero Go.wp_at_succ
def UTabs (w : World) : Prop := Lib.Utf8Tabs (Tryd.laysValid_ren.g 3) (Tryd.laysValid_ren.g 4) w
theorem UTabs.only {w w' : World} (h : UTabs w) (ho : Only [] w w') : UTabs w' := Utf8Tabs_below h (ho.below (Nat.le_refl _) (by simp))
theorem valid_any (x : ByteArray) (w : World) (hs : x.size ≤ 9223372036854775807) (hT : UTabs w) :
  Calls Tryd.prog 36 #[.string x] w fun e w' => e = .returned (.bool (validD (by_ x))) ∧ Only [] w w' := by
 have h : Calls Tryd.prog 36 #[.string x] w _ := Any.utf8_ValidString Tryd.laysValid x w hs hT;exact h.mono fun e w' ⟨h1, h2⟩ => ⟨h1, Only.of_below h2 []⟩

end Go.Proofs.YtojpohmijlkagaaDoor
namespace Go.Proofs.YtojpohmijlkagaaDoor
open Go.RowKit

open Go.Lib hiding intOf
attribute [local go_sem ↓] Go.wp_at_zero Go.wp_at_succ

end Go.Proofs.YtojpohmijlkagaaDoor
