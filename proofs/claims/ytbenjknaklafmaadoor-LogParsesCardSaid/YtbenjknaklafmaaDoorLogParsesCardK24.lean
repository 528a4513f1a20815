/- A contract of the library at this program: what it asks of the program, field by field. Contracts of the package split: Join. -/
import Derived.Test.YtbenjknaklafmaaDoorProg
import Derived.Ground.NamesProg
import Derived.Shelf.Strings.OnBuilder
import Derived.Test.YtbenjknaklafmaaDoorLogParsesCardK23
namespace Go.Proofs
open Go.Shelf
def Tryd.laysJoin_ren : Go.Shelf.Ren := ⟨fun | 156 => 64 | 165 => 73 | 166 => 24 | 169 => 26 | 240 => 45 | 241 => 77 | 276 => 66 | 277 => 83 | n => n, fun | 31 => 40 | 9 => 9 | 3 => 3 | 4 => 4 | 0 => 0 | 20 => 20 | 72 => 50 | 76 => 55 | 70 => 47 | 37 => 48 | 75 => 54 | 127 => 83 | 164 => 102 | 5 => 5 | 80 => 58 | n => n, fun | n => n⟩
theorem Tryd.laysJoin : Go.Proofs.Lays.n156 Tryd.prog Tryd.laysJoin_ren := {
  mixed := by kernel_rfl
  f156 := Tryd.func64.trans (congrArg some (by kernel_rfl))
  f165 := Tryd.func73.trans (congrArg some (by kernel_rfl))
  f166 := Tryd.func24.trans (congrArg some (by kernel_rfl))
  f169 := Tryd.func26.trans (congrArg some (by kernel_rfl))
  f240 := Tryd.func45.trans (congrArg some (by kernel_rfl))
  f241 := Tryd.func77.trans (congrArg some (by kernel_rfl))
  f276 := Tryd.func66.trans (congrArg some (by kernel_rfl))
  f277 := Tryd.func83.trans (congrArg some (by kernel_rfl))
  t0 := Tryd.underlying0
  a0 := Tryd.isAgg0
  z0 := Tryd.sizeOf0
  v0 := Tryd.zeroValue0
  t3 := Tryd.underlying3
  a3 := Tryd.isAgg3
  z3 := Tryd.sizeOf3
  v3 := Tryd.zeroValue3
  t4 := Tryd.underlying4
  a4 := Tryd.isAgg4
  z4 := Tryd.sizeOf4
  v4 := Tryd.zeroValue4
  t9 := Tryd.underlying9
  a9 := Tryd.isAgg9
  z9 := Tryd.sizeOf9
  v9 := Tryd.zeroValue9
  t20 := Tryd.underlying20
  a20 := Tryd.isAgg20
  z20 := Tryd.sizeOf20
  v20 := Tryd.zeroValue20
  t31 := Tryd.underlying40
  a31 := Tryd.isAgg40
  z31 := Tryd.sizeOf40
  v31 := Tryd.zeroValue40
  t37 := Tryd.underlying48
  a37 := Tryd.isAgg48
  z37 := Tryd.sizeOf48
  v37 := Tryd.zeroValue48
  t70 := Tryd.underlying47
  a70 := Tryd.isAgg47
  z70 := Tryd.sizeOf47
  v70 := Tryd.zeroValue47
  t72 := Tryd.underlying50
  a72 := Tryd.isAgg50
  z72 := Tryd.sizeOf50
  v72 := Tryd.zeroValue50
  t75 := Tryd.underlying54
  a75 := Tryd.isAgg54
  z75 := Tryd.sizeOf54
  v75 := Tryd.zeroValue54
  t76 := Tryd.underlying55
  a76 := Tryd.isAgg55
  z76 := Tryd.sizeOf55
  v76 := Tryd.zeroValue55
  t127 := Tryd.underlying83
  a127 := Tryd.isAgg83
  z127 := Tryd.sizeOf83
  v127 := Tryd.zeroValue83
  t164 := Tryd.underlying102
  a164 := Tryd.isAgg102
  z164 := Tryd.sizeOf102
  v164 := Tryd.zeroValue102 }
end Go.Proofs

set_option linter.unusedVariables false
set_option linter.unusedSimpArgs false
namespace Go.Proofs.YtbenjknaklafmaaDoor
open Go.RowKit
open Go.Lib hiding intOf
attribute [local go_sem ↓] Go.wp_at_zero Go.wp_at_succ

theorem extraJ : Builder.Extra Tryd.prog Tryd.laysJoin_ren where
  sizeBuilder := by kernel_rfl
  liesBuilder := by kernel_rfl
  t5 := Tryd.underlying5
  a5 := Tryd.isAgg5
  z5 := Tryd.sizeOf5
  v5 := Tryd.zeroValue5
  infoByte := by kernel_rfl
  cellsByte := by kernel_rfl
  sizeByte := by kernel_rfl
  neB5 := by decide

def joinW (xs : List ByteArray) : List UInt8 := Lib.join (xs.map by_) [32]

theorem sjoin_any (A : Option Addr) (n c B : Nat) (xs : List ByteArray) (w : World) (hA : Row w B A (strs xs)) (hn : xs.length = n) (hc : n ≤ c) (hl : (joinW xs).length ≤ 140737488355328) (hN : n ≤ 140737488355328) :
    Calls Tryd.prog 64 #[.slice A n c, .string ⟨#[32]⟩] w fun e w' => e = .returned (.string ⟨(joinW xs).toArray⟩) ∧ Only [] w w' := by
  subst hn
  rcases hA with h | ⟨b, off, rfl, hb, hw, hcell⟩
  · have : xs = [] := by simpa [strs] using h
    subst this
    have h : Calls Tryd.prog 64 #[.slice A 0 c, .string ⟨#[32]⟩] w _ := Any.strings_Join_none Tryd.laysJoin extraJ A c ⟨#[32]⟩ w
    exact h.mono fun e w' ⟨h1, h2⟩ => ⟨h1, h2 ▸ Only.refl _ _⟩
  · have h : Calls Tryd.prog 64 #[.slice (some ⟨b, off, none⟩) xs.length c, .string ⟨#[32]⟩] w _ := Any.strings_Join Tryd.laysJoin extraJ b off c xs ⟨#[32]⟩ w (fun j x hx => hcell j _ (by rw [strs, List.getElem?_map, hx]; rfl)) (by omega) hN hc hl
    exact h.mono fun e w' ⟨h1, h2⟩ => ⟨h1, Only.of_below h2 []⟩

theorem join_any (A : Option Addr) (n c B : Nat) (xs : List ByteArray) (w : World) (hA : Row w B A (strs xs)) (hn : xs.length = n) (hc : n ≤ c) (hl : (joinW xs).length ≤ 140737488355328) (hN : n ≤ 140737488355328) :
    Calls Tryd.prog 43 #[.slice A n c] w fun e w' => e = .returned (.string ⟨(joinW xs).toArray⟩) ∧ Only [] w w' := by
  have HJ := Lib.hid (sjoin_any A n c B xs w hA hn hc hl hN)
  generalize (⟨(joinW xs).toArray⟩ : ByteArray) = r at *
  clear hA hn hc hl hN
  go_enter Tryd.func43, Tryd.ntmps43
  go_wp2_with fail
  refine (HJ.out).mono ?_
  rintro e w1 ⟨rfl, hO⟩
  have HO := Lib.hid hO
  clear hO
  go_wp2
  go_ret
  exact ⟨rfl, HO.out⟩

end Go.Proofs.YtbenjknaklafmaaDoor
