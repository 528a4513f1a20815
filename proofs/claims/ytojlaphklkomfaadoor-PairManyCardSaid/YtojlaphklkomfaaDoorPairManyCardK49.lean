/- PairMany: the walk, all kinds. The table of an event's words and the tables of unicode/utf8 lie where the program's text lays them. -/
import Derived.Test.YtojlaphklkomfaaDoorPairManyCardK45
import Derived.Test.YtojlaphklkomfaaDoorPairManyCardK46
import Derived.Test.YtojlaphklkomfaaDoorPairManyCardK47
import Derived.Test.YtojlaphklkomfaaDoorPairManyCardK48
import Derived.Test.YtojlaphklkomfaaDoorPairManyCardK12
import Derived.Test.YtojlaphklkomfaaDoorPairManyCardK16
import Derived.LaidMore
import Derived.Lib.LaidIn
import Derived.Lib.LaidU8T
import Derived.Stop.Joined
import Derived.JoinedOf
set_option linter.unusedVariables false
set_option linter.unusedSimpArgs false
namespace Go.Proofs.YtojlaphklkomfaaDoor
open Go.RowKit
open Go.Lib hiding intOf

theorem pairMany_walk (a b : Int) (w : World) (ha : 0 ≤ a ∧ a ≤ 255) (hb : 0 ≤ b ∧ b ≤ 255) (hT : UTabs w) (hV : Verbs w) :
    Calls Tryd.prog 5 #[.int .u8 a, .int .u8 b] w fun e w' => e = .returned (.bool true) ∧ Only [] w w' := by
  obtain ⟨r, hr⟩ : ∃ r : Nat, b % 3 = (r : Int) := ⟨(b % 3).toNat, by omega⟩
  have h4 : a % 4 = 0 ∨ a % 4 = 1 ∨ a % 4 = 2 ∨ a % 4 = 3 := by omega
  rcases h4 with h | h | h | h
  · exact many_0 a b w ha hb r h hr hT hV
  · exact many_1 a b w ha hb r h hr hT hV
  · exact many_2 a b w ha hb r h hr hT hV
  · exact many_3 a b w ha hb r h hr hT hV
end Go.Proofs.YtojlaphklkomfaaDoor

set_option linter.unusedVariables false
set_option linter.unusedSimpArgs false
namespace Go.Proofs.YtojlaphklkomfaaDoor
open Go.ChangeShapes Go.WideShapes Go.ChangeAt Go.RowKit

def laidL : List (String × DataW Unit) := [("unicode/utf8.acceptRanges", Rows.laid_unicode_utf8_acceptRanges), ("deemster/event.verbs", Rows.laid_deemster_event_verbs), ("unicode/utf8.first", Rows.laid_unicode_utf8_first)]
set_option maxRecDepth 100000 in
theorem laid_accept : (Rows.laid_unicode_utf8_acceptRanges : DataW Unit) = Lib.acceptData := by rfl
set_option maxRecDepth 100000 in
theorem laid_first : Rows.laid_unicode_utf8_first = Lib.firstData := by kernel_rfl
def verbD : List (Int × List UInt8 × Bool) := [(1, [98, 101, 103, 105, 110], false), (2, [114, 101, 97, 100], true), (3, [119, 114, 105, 116, 101], true), (4, [111, 107], false), (5, [102, 97, 105, 108], false), (6, [105, 110, 102, 111], false)]
def verbW (x : Int × List UInt8 × Bool) : DataW Unit := .agg [.lit (.int .i64 x.1), .lit (.string x.2.1), .lit (.bool x.2.2)]
theorem laid_verbs : (Rows.laid_deemster_event_verbs : DataW Unit) = .agg (verbD.map verbW) := by rfl

set_option maxRecDepth 100000 in
theorem tabs_of_laid {W : World} (h : laidMetH Tryd.prog laidL W) : UTabs W := by
  rw [MakeChecks.laidMetH_plain _ _ _ (by kernel_rfl)] at h
  unfold laidL at h
  rw [laid_accept, laid_first] at h
  exact utf8Tabs_of_readsT (U8Types.of196 Tryd.laysValid) ⟨by kernel_rfl, by kernel_rfl, by kernel_rfl, by kernel_rfl, by kernel_rfl, by kernel_rfl, by kernel_rfl⟩ (Lib.laidMet.reads h (.tail _ (.tail _ (.head _)))) (Lib.laidMet.reads h (.head _))

set_option maxRecDepth 100000 in
theorem verb_reads {W : World} {fuel : Nat} {cs : List Value} {x : Int × List UInt8 × Bool} {q : List MemPlace} (h : DataW.trod (fun _ => ()) Tryd.prog W 0 (fun _ => true) false fuel 85 cs = some (verbW x, q)) :
    cs = [.int .i64 x.1, .string ⟨x.2.1.toArray⟩, .bool x.2.2] := by
  obtain ⟨y0, y1, y2, n, hx, hl, h0, h1, h2⟩ := Go.Deep.trod_struct3 Tryd.underlying85 h
  rw [show Tryd.prog.cellsOf 85 = 3 by kernel_rfl] at hl
  match cs, hl with
  | [c0, c1, c2], _ =>
    have k0 : Tryd.prog.cellsOf 3 = 1 := by kernel_rfl
    have k1 : Tryd.prog.cellsOf 9 = 1 := by kernel_rfl
    have k2 : Tryd.prog.cellsOf 4 = 1 := by kernel_rfl
    dsimp only at h0 h1 h2
    rw [k0] at h0
    rw [k1] at h1
    rw [k2] at h2
    obtain ⟨a, e0, f0, -⟩ := DataW.trod_int Tryd.underlying3 (by simpa using h0)
    obtain ⟨s, e1, f1, -⟩ := DataW.trod_string Tryd.underlying9 (by simpa using h1)
    obtain ⟨b, e2, f2⟩ := DataW.trod_bool Tryd.underlying4 (by simpa using h2)
    simp at e0 e1 e2
    subst e0 e1 e2 f0 f1 f2
    obtain ⟨x0, x1, x2⟩ := x
    simp [verbW] at hx
    obtain ⟨⟨rfl, rfl, rfl⟩, -⟩ := hx
    rfl

set_option maxRecDepth 100000 in
theorem verbs_of_laid {W : World} (h : laidMetH Tryd.prog laidL W) : Verbs W := by
  rw [MakeChecks.laidMetH_plain _ _ _ (by kernel_rfl)] at h
  unfold laidL at h
  rw [laid_verbs] at h
  obtain ⟨g, t, cs, fuel, p, hg, hty, hvar, hd⟩ := Lib.laidMet.reads h (.tail _ (.head _))
  obtain rfl := Option.some.inj ((show Tryd.prog.globalNamed "deemster/event.verbs" = some 0 by kernel_rfl).symm.trans hg)
  obtain rfl := Option.some.inj ((show (Tryd.prog.globals[0]?).map (·.type) = some 97 by kernel_rfl).symm.trans hty)
  have key : ∀ (j : Nat) (x : Int × List UInt8 × Bool), j < 6 → verbD[j]? = some x → W.cell? ⟨0, j * 3, none⟩ = some (.int .i64 x.1) ∧ W.cell? ⟨0, j * 3 + 1, none⟩ = some (.string ⟨x.2.1.toArray⟩) ∧ W.cell? ⟨0, j * 3 + 2, none⟩ = some (.bool x.2.2) := by
    intro j x hj hx
    obtain ⟨fuel', d, q, hdi, he⟩ := Lib.array_elem Tryd.underlying97 hd j hj
    rw [List.getElem?_map, hx] at hdi
    simp only [Option.map_some, Option.some.injEq] at hdi
    subst hdi
    rw [show Tryd.prog.cellsOf 85 = 3 by kernel_rfl] at he
    have hcs := verb_reads he
    have e0 := congrArg (·[0]?) hcs
    have e1 := congrArg (·[1]?) hcs
    have e2 := congrArg (·[2]?) hcs
    simp only [List.getElem?_take, List.getElem?_drop] at e0 e1 e2
    refine ⟨?_, ?_, ?_⟩
    · rw [World.var?_cell hg hvar (j * 3), ← Array.getElem?_toList]
      simpa using e0
    · rw [World.var?_cell hg hvar (j * 3 + 1), ← Array.getElem?_toList]
      simpa using e1
    · rw [World.var?_cell hg hvar (j * 3 + 2), ← Array.getElem?_toList]
      simpa using e2
  have k0 := key 0 _ (by omega) rfl
  have k1 := key 1 _ (by omega) rfl
  have k2 := key 2 _ (by omega) rfl
  have k3 := key 3 _ (by omega) rfl
  have k4 := key 4 _ (by omega) rfl
  have k5 := key 5 _ (by omega) rfl
  refine ⟨World.block_lt_of_cell? W _ k0.1, fun i u hu => ?_⟩
  have hi : i < 18 := by
    have := (List.getElem?_eq_some_iff.1 hu).1
    exact this
  have hc : i = 0 ∨ i = 1 ∨ i = 2 ∨ i = 3 ∨ i = 4 ∨ i = 5 ∨ i = 6 ∨ i = 7 ∨ i = 8 ∨ i = 9 ∨ i = 10 ∨ i = 11 ∨ i = 12 ∨ i = 13 ∨ i = 14 ∨ i = 15 ∨ i = 16 ∨ i = 17 := by omega
  rcases hc with rfl | rfl | rfl | rfl | rfl | rfl | rfl | rfl | rfl | rfl | rfl | rfl | rfl | rfl | rfl | rfl | rfl | rfl
  · obtain rfl := Option.some.inj hu
    exact k0.1
  · obtain rfl := Option.some.inj hu
    exact k0.2.1
  · obtain rfl := Option.some.inj hu
    exact k0.2.2
  · obtain rfl := Option.some.inj hu
    exact k1.1
  · obtain rfl := Option.some.inj hu
    exact k1.2.1
  · obtain rfl := Option.some.inj hu
    exact k1.2.2
  · obtain rfl := Option.some.inj hu
    exact k2.1
  · obtain rfl := Option.some.inj hu
    exact k2.2.1
  · obtain rfl := Option.some.inj hu
    exact k2.2.2
  · obtain rfl := Option.some.inj hu
    exact k3.1
  · obtain rfl := Option.some.inj hu
    exact k3.2.1
  · obtain rfl := Option.some.inj hu
    exact k3.2.2
  · obtain rfl := Option.some.inj hu
    exact k4.1
  · obtain rfl := Option.some.inj hu
    exact k4.2.1
  · obtain rfl := Option.some.inj hu
    exact k4.2.2
  · obtain rfl := Option.some.inj hu
    exact k5.1
  · obtain rfl := Option.some.inj hu
    exact k5.2.1
  · obtain rfl := Option.some.inj hu
    exact k5.2.2

end Go.Proofs.YtojlaphklkomfaaDoor
