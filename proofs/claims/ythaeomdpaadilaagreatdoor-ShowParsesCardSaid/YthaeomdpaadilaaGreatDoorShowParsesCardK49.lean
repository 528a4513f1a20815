/- The law ShowParses: its walk. A row's wrap that hands the walk both the laid variables and the world's shape. The table of an event's words and the tables of unicode/utf8 lie where the program's text lays them. -/
import Derived.Test.YthaeomdpaadilaaGreatDoorShowParsesCardK47
import Derived.Test.YthaeomdpaadilaaGreatDoorShowParsesCardK48
import Derived.Handed
import Derived.Shelf.Vars
import Derived.HandedShaped
import Derived.Test.YthaeomdpaadilaaGreatDoorShowParsesCardK22
import Derived.Test.YthaeomdpaadilaaGreatDoorShowParsesCardK4
import Derived.Test.YthaeomdpaadilaaGreatDoorShowParsesCardK6
import Derived.LaidMore
import Derived.Lib.LaidIn
import Derived.Lib.LaidU8T
import Derived.Stop.Joined
import Derived.JoinedOf
set_option linter.unusedVariables false
set_option linter.unusedSimpArgs false
namespace Go.Proofs.YthaeomdpaadilaaGreatDoor
open Go.RowKit
open Go.Lib hiding intOf
attribute [local go_sem ↓] Go.wp_at_zero Go.wp_at_succ
theorem eqH_refl (h : Hst) : eqH h h = true := by simp [eqH]
set_option maxRecDepth 10000 in
set_option maxHeartbeats 8000000 in
theorem showParses_walk (s : ByteArray) (w : World) (hs : s.size ≤ 9223372036854775807) (hT : UTabs w) (hM : MLen w) (hV : Verbs w) :
  Calls Tryz.prog 4 #[.string s] w fun e w' => e = .returned (.bool true) ∧ Only [] w w' := by
 obtain ⟨q, hq⟩ : ∃ q, q = min s.size 4000 := ⟨_, rfl⟩
 have hmin : min (s.size : Int) 4000 = (q : Int) := by omega
 have hq1 : (0 : Int) ≤ (q : Int) := Int.natCast_nonneg _
 have hq2 : (q : Int) ≤ (s.size : Int) := by omega
 have hxs : (s.extract 0 q).size ≤ 4000 := by rw [ByteArray.size_extract]; omega
 obtain ⟨x, hx⟩ : ∃ x, x = s.extract 0 q := ⟨_, rfl⟩
 rw [← hx] at hxs
 have hrow : ∀ l ∈ linesOf (by_ x), l.length ≤ 65535 := fun l hl => by
  have hb := by_length x
  unfold linesOf at hl
  have := cutL_mem (by_ x) [] l hl
  simp at this
  omega
 have HP := Lib.hid (sparse_any x w (by omega) hrow (log_len x) (log_sizes x) hT hM hV)
 have HRP := Lib.hid (fun w' => rsparse_any x w' (by omega) hrow)
 have HSM := Lib.hid (show_small x)
 have HW := Lib.hid (fun w' (hO : Only [] w w') => works12_any w' (hT.only hO) (hM.only hO) (hV.only hO))
 have HT := Lib.hid (fun w' (hO : Only [] w w') => hT.only hO)
 have HXE := Lib.hid hx.symm
 generalize showR x = pr at *
 obtain ⟨h, num, er⟩ := pr
 dsimp only at HP HRP HSM
 have HEQ := Lib.hid (eqH_refl h)
 clear hT hM hV hrow hxs hq hx
 go_enter Tryz.func4, Tryz.ntmps4
 go_wp2_with fail
 rw [HXE.out]
 refine (HP.out).mono ?_
 rintro e w1 ⟨A0, A1, A2, c0, c1, c2, ⟨rfl, hA⟩, O1⟩
 have HA1 := Lib.hid hA
 have HO1 := Lib.hid O1
 clear hA O1 HP HXE
 have HB1 := Lib.hid (Blk.made w1 25 #[.slice A0 h.ss.length c0, .slice A1 h.ks.length c1, .slice A2 h.l.length c2])
 have HO2 := Lib.hid (HO1.out.alloc (.cells #[.slice A0 h.ss.length c0, .slice A1 h.ks.length c1, .slice A2 h.l.length c2] 25))
 have HA2 := Lib.hid (HA1.out.only ((Only.refl [] w1).alloc (.cells #[.slice A0 h.ss.length c0, .slice A1 h.ks.length c1, .slice A2 h.l.length c2] 25)) (by simp))
 go_wp2_with fail
 generalize (w1.alloc (.cells #[.slice A0 h.ss.length c0, .slice A1 h.ks.length c1, .slice A2 h.l.length c2] 25)) = w2 at *
 generalize w1.heap.size = g1 at *
 refine (HRP.out _).mono ?_
 rintro e w3 ⟨B0, B1, B2, d0, d1, d2, ⟨rfl, hB⟩, O3⟩
 have HB3 := Lib.hid (O3.blk HB1.out (by simp))
 have HA3 := Lib.hid (HA2.out.only O3 (by simp))
 have HO3 := Lib.hid (HO2.out.trans O3)
 have HC3 := Lib.hid hB
 clear hB O3 HRP HB1 HA2 HO2 HA1 HO1
 have o4 := (Only.refl [] w3).alloc (.cells #[.slice B0 h.ss.length d0, .slice B1 h.ks.length d1, .slice B2 h.l.length d2] 25)
 have HD4 := Lib.hid (Blk.made w3 25 #[.slice B0 h.ss.length d0, .slice B1 h.ks.length d1, .slice B2 h.l.length d2])
 have HB4 := Lib.hid (o4.blk HB3.out (by simp))
 have HO4 := Lib.hid (HO3.out.trans o4)
 have HA4 := Lib.hid (HA3.out.only o4 (by simp))
 have HC4 := Lib.hid (HC3.out.only o4 (by simp))
 clear o4
 have hb := HB4.out
 have y0 := hb.at_ 0
 have y1 := hb.at_ 1
 have y2 := hb.at_ 2
 have ly := hb.lt
 have hc := HD4.out
 have z0 := hc.at_ 0
 have z1 := hc.at_ 1
 have z2 := hc.at_ 2
 have lz := hc.lt
 simp at y0 y1 y2 z0 z1 z2
 clear hb hc
 go_wp2_with fail
 refine (rsame10_any A0 A1 A2 _ _ _ c0 c1 c2 _ h B0 B1 B2 _ _ _ d0 d1 d2 _ h _ ⟨HA4.out, rfl, rfl, rfl, HSM.out, HT.out _ HO4.out⟩ ⟨HC4.out, rfl, rfl, rfl, HSM.out, HT.out _ HO4.out⟩).mono ?_
 rintro e w5 ⟨rfl, O5⟩
 rw [HEQ.out]
 have HO5 := Lib.hid (HO4.out.trans O5)
 clear O5 y0 y1 y2 z0 z1 z2 ly lz
 go_wp2_with fail
 refine (HW.out _ HO5.out).mono ?_
 rintro e w6 ⟨rfl, O6⟩
 have HO6 := Lib.hid (HO5.out.trans O6)
 clear O6
 go_wp2
 go_ret
 exact ⟨rfl, HO6.out⟩
end Go.Proofs.YthaeomdpaadilaaGreatDoor

set_option linter.unusedVariables false
set_option linter.unusedSimpArgs false
namespace Go.Proofs.YthaeomdpaadilaaGreatDoor
open Go.ChangeShapes Go.WideShapes Go.ChangeAt Go.RowKit
theorem handed_and_shaped {H : Type} {enc : TypeId × Value → H} {a : Assume} {C : Checked} {os : Os} {f : FuncId} {fn : Func} {s : ChangeSpec} {conds : List PathCond} {apart fresh handsOn again : Bool} {X : World → Array Value → Prop}
  (hX : ∀ (w w' : World) (args : Array Value), w.heap = w'.heap → X w args → X w' args)
  (own : ownKnob C.prog.godebug = none) (started : os.Started) (noInit : C.prog.inits.idxOf? f = none) (hfn : C.prog.funcs[f]? = some fn)
  (witness : ∃ (w : World) (tape : Tape) (i : Input), w.os = os ∧ (w.forCall tape i).Shaped C.prog ∧ i.vars = [] ∧ Input.okWide C.prog (w.forCall tape i) .any w.heap.size f i ∧
   ((s.pre enc C.prog fn conds apart (w.forCall tape i).memory i.args ∧ X (w.forCall tape i).memory i.args) ∧ sizedMet enc C.prog fn (OpenSpec.ofChange s) apart (w.forCall tape i).memory i.args) ∧ a.holds C.prog (lone (Frame.enter C.prog f i.args .normal) [] (w.forCall tape i)))
  (contract : ∀ (W : World) (base : Nat) (args : Array Value) (ds gs : List (DataW H)) (before : List MemPlace),
   (∀ (j : Nat) t v, fn.params[j]? = some t → args[j]? = some v → Value.okWide C.prog W .any base t v) →
   DataW.Whole enc C.prog fn.params.toList s.vars apart W args.toList ds gs before →
   W.ShapedOpen C.prog →
   (DataW.weightsEach C.prog (fn.params.toList ++ s.plain.varTypes C.prog) (ds ++ gs)).all (· ≤ reachBytes) = true → X W args →
   a.holds C.prog (lone (Frame.enter C.prog f args .normal) [] W) →
   Calls C.prog f args W fun e W' => ∃ v, e = .returned v ∧ s.post enc C.prog fn apart fresh handsOn again W args v W') :
  ReturnsInHanded a C os f .any (fun w args => (s.pre enc C.prog fn conds apart w args ∧ X w args) ∧ sizedMet enc C.prog fn (OpenSpec.ofChange s) apart w args) (s.post enc C.prog fn apart fresh handsOn again) := by
 refine returnsInHanded_of_calls own started noInit witness ?_
 intro w tape i _ hsh _ hok hpre hholds
 obtain ⟨_, _, _, fn', hfn', _, _, _, _, hval⟩ := hok
 have e : fn' = fn := Option.some.inj (hfn'.symm.trans hfn)
 subst e
 obtain ⟨⟨⟨ds, gs, before, hw, hc⟩, hx⟩, hz⟩ := hpre
 have hw' := DataW.Whole.of_heap (w' := w.forCall tape i) (by rfl) hw
 refine (contract (w.forCall tape i) w.heap.size i.args ds gs before hval hw' hsh (hz.weights hw) (hX _ _ _ (by rfl) hx) hholds).mono fun e W' ⟨v, he, hp⟩ => ?_
 subst he
 exact ChangeSpec.post_blind hp
theorem mlen_of_shaped {W : World} (h : W.ShapedOpen Tryz.prog) : MLen W :=
 Go.Proofs.cell_of_shapedOpen_int (zero := #[.int .i64 0]) (t := 3) h (of_decide_eq_true (by kernel_rfl)) (by kernel_rfl) rfl (by kernel_rfl) (by kernel_rfl) Tryz.underlying3
end Go.Proofs.YthaeomdpaadilaaGreatDoor

set_option linter.unusedVariables false
set_option linter.unusedSimpArgs false
namespace Go.Proofs.YthaeomdpaadilaaGreatDoor
open Go.ChangeShapes Go.WideShapes Go.ChangeAt Go.RowKit
def laidL : List (String × DataW Unit) := [("unicode/utf8.acceptRanges", Rows.laid_unicode_utf8_acceptRanges), ("deemster/event.verbs", Rows.laid_deemster_event_verbs), ("unicode/utf8.first", Rows.laid_unicode_utf8_first)]
set_option maxRecDepth 100000 in
theorem laid_accept : (Rows.laid_unicode_utf8_acceptRanges : DataW Unit) = Lib.acceptData := by rfl
set_option maxRecDepth 100000 in
theorem laid_first : Rows.laid_unicode_utf8_first = Lib.firstData := by kernel_rfl
def verbD : List (Int × List UInt8 × Bool) := [(1, [98, 101, 103, 105, 110], false), (2, [114, 101, 97, 100], true), (3, [119, 114, 105, 116, 101], true), (4, [111, 107], false), (5, [102, 97, 105, 108], false), (6, [105, 110, 102, 111], false)]
def verbW (x : Int × List UInt8 × Bool) : DataW Unit := .agg [.lit (.int .i64 x.1), .lit (.string x.2.1), .lit (.bool x.2.2)]
theorem laid_verbs : (Rows.laid_deemster_event_verbs : DataW Unit) = .agg (verbD.map verbW) := by rfl
set_option maxRecDepth 100000 in
theorem tabs_of_laid {W : World} (h : laidMetH Tryz.prog laidL W) : UTabs W := by
 rw [MakeChecks.laidMetH_plain _ _ _ (by kernel_rfl)] at h
 unfold laidL at h
 rw [laid_accept, laid_first] at h
 exact utf8Tabs_of_readsT (U8Types.of196 Tryz.laysValid) ⟨by kernel_rfl, by kernel_rfl, by kernel_rfl, by kernel_rfl, by kernel_rfl, by kernel_rfl, by kernel_rfl⟩ (Lib.laidMet.reads h (.tail _ (.tail _ (.head _)))) (Lib.laidMet.reads h (.head _))
set_option maxRecDepth 100000 in
theorem verb_reads {W : World} {fuel : Nat} {cs : List Value} {x : Int × List UInt8 × Bool} {q : List MemPlace} (h : DataW.trod (fun _ => ()) Tryz.prog W 0 (fun _ => true) false fuel 103 cs = some (verbW x, q)) :
  cs = [.int .i64 x.1, .string ⟨x.2.1.toArray⟩, .bool x.2.2] := by
 obtain ⟨y0, y1, y2, n, hx, hl, h0, h1, h2⟩ := Go.Deep.trod_struct3 Tryz.underlying103 h
 rw [show Tryz.prog.cellsOf 103 = 3 by kernel_rfl] at hl
 match cs, hl with
 | [c0, c1, c2], _ =>
  have k0 : Tryz.prog.cellsOf 3 = 1 := by kernel_rfl
  have k1 : Tryz.prog.cellsOf 9 = 1 := by kernel_rfl
  have k2 : Tryz.prog.cellsOf 4 = 1 := by kernel_rfl
  dsimp only at h0 h1 h2
  rw [k0] at h0
  rw [k1] at h1
  rw [k2] at h2
  obtain ⟨a, e0, f0, -⟩ := DataW.trod_int Tryz.underlying3 (by simpa using h0)
  obtain ⟨s, e1, f1, -⟩ := DataW.trod_string Tryz.underlying9 (by simpa using h1)
  obtain ⟨b, e2, f2⟩ := DataW.trod_bool Tryz.underlying4 (by simpa using h2)
  simp at e0 e1 e2
  subst e0 e1 e2 f0 f1 f2
  obtain ⟨x0, x1, x2⟩ := x
  simp [verbW] at hx
  obtain ⟨⟨rfl, rfl, rfl⟩, -⟩ := hx
  rfl
set_option maxRecDepth 100000 in
theorem verbs_of_laid {W : World} (h : laidMetH Tryz.prog laidL W) : Verbs W := by
 rw [MakeChecks.laidMetH_plain _ _ _ (by kernel_rfl)] at h
 unfold laidL at h
 rw [laid_verbs] at h
 obtain ⟨g, t, cs, fuel, p, hg, hty, hvar, hd⟩ := Lib.laidMet.reads h (.tail _ (.head _))
 obtain rfl := Option.some.inj ((show Tryz.prog.globalNamed "deemster/event.verbs" = some 0 by kernel_rfl).symm.trans hg)
 obtain rfl := Option.some.inj ((show (Tryz.prog.globals[0]?).map (·.type) = some 134 by kernel_rfl).symm.trans hty)
 have key : ∀ (j : Nat) (x : Int × List UInt8 × Bool), j < 6 → verbD[j]? = some x → W.cell? ⟨0, j * 3, none⟩ = some (.int .i64 x.1) ∧ W.cell? ⟨0, j * 3 + 1, none⟩ = some (.string ⟨x.2.1.toArray⟩) ∧ W.cell? ⟨0, j * 3 + 2, none⟩ = some (.bool x.2.2) := by
  intro j x hj hx
  obtain ⟨fuel', d, q, hdi, he⟩ := Lib.array_elem Tryz.underlying134 hd j hj
  rw [List.getElem?_map, hx] at hdi
  simp only [Option.map_some, Option.some.injEq] at hdi
  subst hdi
  rw [show Tryz.prog.cellsOf 103 = 3 by kernel_rfl] at he
  have hcs := verb_reads he
  have e0 := congrArg (·[0]?) hcs
  have e1 := congrArg (·[1]?) hcs
  have e2 := congrArg (·[2]?) hcs
  simp only [List.getElem?_take, List.getElem?_drop] at e0 e1 e2
  refine ⟨?_, ?_, ?_⟩
  ·rw [World.var?_cell hg hvar (j * 3), ← Array.getElem?_toList]
   simpa using e0
  ·rw [World.var?_cell hg hvar (j * 3 + 1), ← Array.getElem?_toList]
   simpa using e1
  ·rw [World.var?_cell hg hvar (j * 3 + 2), ← Array.getElem?_toList]
   simpa using e2
 have k0 := key 0 _ (by omega) rfl
 have k1 := key 1 _ (by omega) rfl
 have k2 := key 2 _ (by omega) rfl
 have k3 := key 3 _ (by omega) rfl
 have k4 := key 4 _ (by omega) rfl
 have k5 := key 5 _ (by omega) rfl
 refine ⟨World.block_lt_of_cell? W _ k0.1, fun i u hu => ?_⟩
 have hi : i < 18 := by
  have := (List.getElem?_eq_some_iff.1 hu).1
  exact this
 have hc : i = 0 ∨ i = 1 ∨ i = 2 ∨ i = 3 ∨ i = 4 ∨ i = 5 ∨ i = 6 ∨ i = 7 ∨ i = 8 ∨ i = 9 ∨ i = 10 ∨ i = 11 ∨ i = 12 ∨ i = 13 ∨ i = 14 ∨ i = 15 ∨ i = 16 ∨ i = 17 := by omega
 rcases hc with rfl | rfl | rfl | rfl | rfl | rfl | rfl | rfl | rfl | rfl | rfl | rfl | rfl | rfl | rfl | rfl | rfl | rfl
 ·obtain rfl := Option.some.inj hu
  exact k0.1
 ·obtain rfl := Option.some.inj hu
  exact k0.2.1
 ·obtain rfl := Option.some.inj hu
  exact k0.2.2
 ·obtain rfl := Option.some.inj hu
  exact k1.1
 ·obtain rfl := Option.some.inj hu
  exact k1.2.1
 ·obtain rfl := Option.some.inj hu
  exact k1.2.2
 ·obtain rfl := Option.some.inj hu
  exact k2.1
 ·obtain rfl := Option.some.inj hu
  exact k2.2.1
 ·obtain rfl := Option.some.inj hu
  exact k2.2.2
 ·obtain rfl := Option.some.inj hu
  exact k3.1
 ·obtain rfl := Option.some.inj hu
  exact k3.2.1
 ·obtain rfl := Option.some.inj hu
  exact k3.2.2
 ·obtain rfl := Option.some.inj hu
  exact k4.1
 ·obtain rfl := Option.some.inj hu
  exact k4.2.1
 ·obtain rfl := Option.some.inj hu
  exact k4.2.2
 ·obtain rfl := Option.some.inj hu
  exact k5.1
 ·obtain rfl := Option.some.inj hu
  exact k5.2.1
 ·obtain rfl := Option.some.inj hu
  exact k5.2.2
end Go.Proofs.YthaeomdpaadilaaGreatDoor
