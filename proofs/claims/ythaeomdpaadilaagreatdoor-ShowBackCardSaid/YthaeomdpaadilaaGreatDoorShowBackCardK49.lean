/- ShowBack: the walk. A row's wrap that hands the walk both the laid variables and the world's shape. The table of an event's words and the tables of unicode/utf8 lie where the program's text lays them. -/
import Derived.Test.YthaeomdpaadilaaGreatDoorShowBackCardK38
import Derived.Test.YthaeomdpaadilaaGreatDoorShowBackCardK39
import Derived.Test.YthaeomdpaadilaaGreatDoorShowBackCardK23
import Derived.Test.YthaeomdpaadilaaGreatDoorShowBackCardK25
import Derived.Test.YthaeomdpaadilaaGreatDoorShowBackCardK48
import Derived.Handed
import Derived.Shelf.Vars
import Derived.HandedShaped
import Derived.Test.YthaeomdpaadilaaGreatDoorShowBackCardK16
import Derived.Test.YthaeomdpaadilaaGreatDoorShowBackCardK10
import Derived.Test.YthaeomdpaadilaaGreatDoorShowBackCardK5
import Derived.LaidMore
import Derived.Lib.LaidIn
import Derived.Lib.LaidU8T
import Derived.Stop.Joined
import Derived.JoinedOf
set_option linter.unusedVariables false
set_option linter.unusedSimpArgs false
namespace Go.Proofs.YthaeomdpaadilaaGreatDoor
open Go.RowKit
open Go.Lib hiding intOf
attribute [local go_sem ↓] Go.wp_at_zero Go.wp_at_succ

theorem none_log : logParse ⟨#[]⟩ = ([], 0, 0) := by kernel_rfl
theorem none_rows : (linesOf (by_ ⟨#[]⟩)).all (fun x => decide (x.length ≤ 65535)) = true := by kernel_rfl
theorem eqH_self (h : Hst) : eqH h h = true := by simp [eqH]

set_option maxRecDepth 10000 in
set_option maxHeartbeats 8000000 in
theorem showBack_walk (A0 A1 A2 : Option Addr) (c0 c1 c2 : Nat) (h : Hst) (w : World) (hg : HAt w w.heap.size A0 A1 A2 h) (hm0 : h.ss.length ≤ maxLen) (hm1 : h.ks.length ≤ maxLen) (hm2 : h.l.length ≤ maxLen)
    (hz0 : ∀ z ∈ h.ss, z.size ≤ maxLen) (hz1 : ∀ z ∈ h.ks, z.size ≤ maxLen) (hob : ∀ t ∈ h.l, ∀ x ∈ t.ops, OpI x) (hT : UTabs w) (hM : MLen w) (hV : Verbs w) :
    Calls Tryz.prog 5 #[hval A0 A1 A2 h.ss.length h.ks.length h.l.length c0 c1 c2] w fun e w' => e = .returned (.bool true) ∧ Only [] w w' := by
  unfold hval
  have HW := Lib.hid (fun w' (O : Only [] w w') => works12_any w' (hT.only O) (hM.only O) (hV.only O))
  have HF0 := Lib.hid (fun w' (O : Only [] w w') => few_first A0 A1 A2 c0 c1 c2 h w' (hg.only O (by simp)).up hm0 hm1 hm2 hz0 hz1 (hT.only O))
  have hxb := few_bounds (h := h) hob
  generalize fewH h = G at *
  have HEV := Lib.hid (fun A0 A1 A2 n0 n1 n2 c0 c1 c2 B w' hg => sevents_any A0 A1 A2 n0 n1 n2 c0 c1 c2 B G w' hg)
  have HPR := Lib.hid (fun A0 A1 A2 n0 n1 n2 c0 c1 c2 B w' hg (O : Only [] w w') => sprint_any A0 A1 A2 n0 n1 n2 c0 c1 c2 B G w' hg (fun _ => hxb) (hV.only O))
  have HSM := Lib.hid (fun A0 A1 A2 n0 n1 n2 c0 c1 c2 B Z0 Z1 Z2 m0 m1 m2 d0 d1 d2 B' w' hg hh => rsame10_any A0 A1 A2 n0 n1 n2 c0 c1 c2 B G Z0 Z1 Z2 m0 m1 m2 d0 d1 d2 B' G w' hg hh)
  unfold hval at HEV HPR HSM
  have hback := fun he => show_back (h := G) he hxb
  have HLE := Lib.hid (fun he => evs_len (h := G) he)
  have HPN := Lib.hid (fun w' (O : Only [] w w') => sparse_any ⟨#[]⟩ w' (by decide) (fun x hx => by simpa using List.all_eq_true.1 none_rows x hx) (by rw [none_log]; decide) (fun x hx => by rw [none_log] at hx; cases hx) (hT.only O) (hM.only O) (hV.only O))
  generalize showR ⟨#[]⟩ = rn at *
  obtain ⟨hn, ln, en⟩ := rn
  dsimp only at HPN
  have HPA : Hid (errH G = 0 → showP G = (⟨#[]⟩, 6) ∨ ((showP G).2 = 0 ∧ ∀ w', Only [] w w' → Calls Tryz.prog 13 #[.string (showP G).1] w' fun e w'' => ∃ B0 B1 B2 d0 d1 d2, (e = .returned (.tuple #[.agg #[.slice B0 G.ss.length d0, .slice B1 G.ks.length d1, .slice B2 G.l.length d2], .int .i64 0, .int .i64 0]) ∧ HAt w'' w''.heap.size B0 B1 B2 G) ∧ Only [] w' w'')) := Lib.hid (fun he => by
    rcases hback he with h1 | ⟨h1, h2, h3, h4, h5⟩
    · exact .inl h1
    · refine .inr ⟨h1, fun w' O => ?_⟩
      have := sparse_any (showP G).1 w' h3 h4 (by rw [h5]; have := evs_len he; show (evsH G).length ≤ _; omega) (fun x hx => by rw [h5] at hx; have := hxb x hx; exact ⟨by have := this.s; omega, by have := this.y; omega⟩) (hT.only O) (hM.only O) (hV.only O)
      rw [h2] at this
      exact this)
  generalize showP G = pr at *
  obtain ⟨T, E⟩ := pr
  dsimp only at HPR HPA
  generalize hge : errH G = er at *
  have HER := Lib.hid hge
  generalize h.ss.length = n0 at *
  generalize h.ks.length = n1 at *
  generalize h.l.length = n2 at *
  have HT := Lib.hid hT
  clear hg hm0 hm1 hm2 hz0 hz1 hob hT hM hV hxb hback hge
  have HB := Lib.hid (Blk.made w 25 #[.slice A0 n0 c0, .slice A1 n1 c1, .slice A2 n2 c2])
  have HO0 := Lib.hid ((Only.refl [] w).alloc (.cells #[.slice A0 n0 c0, .slice A1 n1 c1, .slice A2 n2 c2] 25))
  go_enter Tryz.func5, Tryz.ntmps5
  go_wp2_with fail
  refine (HW.out _ HO0.out).mono ?_
  rintro e w1 ⟨rfl, O1⟩
  have HB1 := Lib.hid (O1.blk HB.out (by simp))
  have HO1 := Lib.hid (HO0.out.trans O1)
  clear O1 HB HO0 HW
  have l1 := HB1.out.lt
  have y0 := HB1.out.at_ 0
  have y1 := HB1.out.at_ 1
  have y2 := HB1.out.at_ 2
  simp at y0 y1 y2
  go_wp2_with fail
  refine (HF0.out _ HO1.out).mono ?_
  rintro e w2 ⟨B0, B1, B2, d0, d1, d2, ⟨rfl, hI⟩, O2⟩
  have HI := Lib.hid hI
  have HB2 := Lib.hid (O2.blk HB1.out (by simp))
  have HO2 := Lib.hid (HO1.out.trans O2)
  clear hI O2 HB1 HO1 HF0 l1 y0 y1 y2
  go_wp2_with (refine wpList_store_blk rfl 25 (.tmp 1) (.tmp 13) rfl w.heap.size 25 _ #[.slice B0 G.ss.length d0, .slice B1 G.ks.length d1, .slice B2 G.l.length d2] rfl rfl HB2.out rfl (by kernel_rfl) (by kernel_rfl) ?_; intro w3 hb3 o3; have HB3 := Lib.hid hb3; have HO3 := Lib.hid (HO2.out.step o3 (fun i hi hl => by simp at hi; omega)); have HI3 := Lib.hid (HI.out.past HB2.out o3 (HT.out.only HO3.out)); have l3 := HB3.out.lt; have y0 := HB3.out.at_ 0; have y1 := HB3.out.at_ 1; have y2 := HB3.out.at_ 2; simp at y0 y1 y2; clear hb3 o3; generalize w.heap.size = g at *; clear HI HB2 HO2)
  refine (HEV.out _ _ _ _ _ _ _ _ _ _ _ HI3.out).mono ?_
  rintro e w4 ⟨V, n, rfl, O4, hn4, hown⟩
  subst hn4
  obtain ⟨A4, c4, rfl, -, -, -, -⟩ := own_row hown
  have HB4 := Lib.hid (O4.blk HB3.out (by simp))
  have HO4 := Lib.hid (HO3.out.trans O4)
  have HI4 := Lib.hid (HI3.out.same O4)
  clear l3 y0 y1 y2 O4 HB3 HO3 HI3 hown HEV
  by_cases he : er = 0
  · have hb : (er != 0) = false := by simp [he]
    have hlen := HLE.out he
    have HPQ := Lib.hid (HPA.out he)
    subst he
    rw [if_pos rfl]
    generalize (evsH G).length = nl at *
    have hd : decide ((1000 : Int) < (nl : Int)) = false := decide_eq_false (by omega)
    clear HPA HLE hlen
    have l4 := HB4.out.lt
    have y0 := HB4.out.at_ 0
    have y1 := HB4.out.at_ 1
    have y2 := HB4.out.at_ 2
    simp at y0 y1 y2
    go_wp2_with fail
    refine (HPR.out _ _ _ _ _ _ _ _ _ _ _ HI4.out HO4.out).mono ?_
    rintro e w5 ⟨rfl, O5⟩
    have HB5 := Lib.hid (O5.blk HB4.out (by simp))
    have HO5 := Lib.hid (HO4.out.trans O5)
    have HI5 := Lib.hid (HI4.out.same O5)
    clear l4 y0 y1 y2 O5 HB4 HO4 HI4 HPR
    rcases HPQ.out with hp | ⟨hp1, hp2⟩
    · simp only [Prod.mk.injEq] at hp
      obtain ⟨rfl, rfl⟩ := hp
      clear HPQ
      go_wp2_with fail
      refine (HPN.out _ HO5.out).mono ?_
      rintro e w6 ⟨D0, D1, D2, f0, f1, f2, ⟨rfl, -⟩, O6⟩
      have HO6 := Lib.hid (HO5.out.trans O6)
      clear O6
      go_wp2
      go_ret
      exact ⟨rfl, HO6.out.alloc _⟩
    · subst hp1
      have HP2 := Lib.hid hp2
      clear HPQ hp2
      go_wp2_with fail
      refine (HP2.out _ HO5.out).mono ?_
      rintro e w6 ⟨D0, D1, D2, f0, f1, f2, ⟨rfl, hA⟩, O6⟩
      have HB6 := Lib.hid (O6.blk HB5.out (by simp))
      have HO6 := Lib.hid (HO5.out.trans O6)
      have HI6 := Lib.hid (HI5.out.same O6)
      have HA6 := Lib.hid hA
      clear O6 hA HB5 HO5 HI5 HP2
      go_upto_region 9 with (fail)
      have O7 : Only [] w6 (w6.alloc (.cells #[.slice D0 G.ss.length f0, .slice D1 G.ks.length f1, .slice D2 G.l.length f2] 25)) := (Only.refl [] w6).alloc _
      have HK7 := Lib.hid (Blk.made w6 25 #[.slice D0 G.ss.length f0, .slice D1 G.ks.length f1, .slice D2 G.l.length f2])
      have HB7 := Lib.hid (O7.blk HB6.out (by simp))
      have HO7 := Lib.hid (HO6.out.trans O7)
      have HI7 := Lib.hid (HI6.out.same O7)
      have HJ7 : Hid (HIn (w6.alloc (.cells #[.slice D0 G.ss.length f0, .slice D1 G.ks.length f1, .slice D2 G.l.length f2] 25)) w6.heap.size D0 D1 D2 G.ss.length G.ks.length G.l.length G) := Lib.hid ⟨HA6.out.only O7 (by simp), rfl, rfl, rfl, HI6.out.sm, HI7.out.u⟩
      generalize (w6.alloc (.cells #[.slice D0 G.ss.length f0, .slice D1 G.ks.length f1, .slice D2 G.l.length f2] 25)) = w7 at *
      generalize w6.heap.size = g7 at *
      clear O7 HA6 HB6 HO6 HI6
      have l7 := HB7.out.lt
      have y0 := HB7.out.at_ 0
      have y1 := HB7.out.at_ 1
      have y2 := HB7.out.at_ 2
      have k7 := HK7.out.lt
      have z0 := HK7.out.at_ 0
      have z1 := HK7.out.at_ 1
      have z2 := HK7.out.at_ 2
      simp at y0 y1 y2 z0 z1 z2
      go_wp2_with fail
      refine (HSM.out _ _ _ _ _ _ _ _ _ _ _ _ _ _ _ _ _ _ _ _ _ HJ7.out HI7.out).mono ?_
      rintro e w8 ⟨rfl, O8⟩
      have HO8 := Lib.hid (HO7.out.trans O8)
      rw [eqH_self]
      clear O8 l7 y0 y1 y2 k7 z0 z1 z2
      go_wp2
      go_ret
      exact ⟨rfl, HO8.out⟩
  · have h4 : er = 4 := by
      have := HER.out
      unfold errH at this
      split at this <;> omega
    subst h4
    rw [if_neg (by decide)]
    clear he HPA HLE HER
    go_wp2
    go_ret
    exact ⟨rfl, HO4.out⟩
end Go.Proofs.YthaeomdpaadilaaGreatDoor

set_option linter.unusedVariables false
set_option linter.unusedSimpArgs false
namespace Go.Proofs.YthaeomdpaadilaaGreatDoor
open Go.ChangeShapes Go.WideShapes Go.ChangeAt Go.RowKit

theorem handed_and_shaped {H : Type} {enc : TypeId × Value → H} {a : Assume} {C : Checked} {os : Os} {f : FuncId} {fn : Func} {s : ChangeSpec} {conds : List PathCond} {apart fresh handsOn again : Bool} {X : World → Array Value → Prop}
    (hX : ∀ (w w' : World) (args : Array Value), w.heap = w'.heap → X w args → X w' args)
    (own : ownKnob C.prog.godebug = none) (started : os.Started) (noInit : C.prog.inits.idxOf? f = none) (hfn : C.prog.funcs[f]? = some fn)
    (witness : ∃ (w : World) (tape : Tape) (i : Input), w.os = os ∧ (w.forCall tape i).Shaped C.prog ∧ i.vars = [] ∧ Input.okWide C.prog (w.forCall tape i) .any w.heap.size f i ∧
      ((s.pre enc C.prog fn conds apart (w.forCall tape i).memory i.args ∧ X (w.forCall tape i).memory i.args) ∧ sizedMet enc C.prog fn (OpenSpec.ofChange s) apart (w.forCall tape i).memory i.args) ∧ a.holds C.prog (lone (Frame.enter C.prog f i.args .normal) [] (w.forCall tape i)))
    (contract : ∀ (W : World) (base : Nat) (args : Array Value) (ds gs : List (DataW H)) (before : List MemPlace),
      (∀ (j : Nat) t v, fn.params[j]? = some t → args[j]? = some v → Value.okWide C.prog W .any base t v) →
      DataW.Whole enc C.prog fn.params.toList s.vars apart W args.toList ds gs before →
      W.ShapedOpen C.prog →
      (DataW.weightsEach C.prog (fn.params.toList ++ s.plain.varTypes C.prog) (ds ++ gs)).all (· ≤ reachBytes) = true → X W args →
      a.holds C.prog (lone (Frame.enter C.prog f args .normal) [] W) →
      Calls C.prog f args W fun e W' => ∃ v, e = .returned v ∧ s.post enc C.prog fn apart fresh handsOn again W args v W') :
    ReturnsInHanded a C os f .any (fun w args => (s.pre enc C.prog fn conds apart w args ∧ X w args) ∧ sizedMet enc C.prog fn (OpenSpec.ofChange s) apart w args) (s.post enc C.prog fn apart fresh handsOn again) := by
  refine returnsInHanded_of_calls own started noInit witness ?_
  intro w tape i _ hsh _ hok hpre hholds
  obtain ⟨_, _, _, fn', hfn', _, _, _, _, hval⟩ := hok
  have e : fn' = fn := Option.some.inj (hfn'.symm.trans hfn)
  subst e
  obtain ⟨⟨⟨ds, gs, before, hw, hc⟩, hx⟩, hz⟩ := hpre
  have hw' := DataW.Whole.of_heap (w' := w.forCall tape i) (by rfl) hw
  refine (contract (w.forCall tape i) w.heap.size i.args ds gs before hval hw' hsh (hz.weights hw) (hX _ _ _ (by rfl) hx) hholds).mono fun e W' ⟨v, he, hp⟩ => ?_
  subst he
  exact ChangeSpec.post_blind hp

theorem mlen_of_shaped {W : World} (h : W.ShapedOpen Tryz.prog) : MLen W :=
  Go.Proofs.cell_of_shapedOpen_int (zero := #[.int .i64 0]) (t := 3) h (of_decide_eq_true (by kernel_rfl)) (by kernel_rfl) rfl (by kernel_rfl) (by kernel_rfl) Tryz.underlying3

end Go.Proofs.YthaeomdpaadilaaGreatDoor

set_option linter.unusedVariables false
set_option linter.unusedSimpArgs false
namespace Go.Proofs.YthaeomdpaadilaaGreatDoor
open Go.ChangeShapes Go.WideShapes Go.ChangeAt Go.RowKit

def laidL : List (String × DataW Unit) := [("unicode/utf8.acceptRanges", Rows.laid_unicode_utf8_acceptRanges), ("deemster/event.verbs", Rows.laid_deemster_event_verbs), ("unicode/utf8.first", Rows.laid_unicode_utf8_first)]
set_option maxRecDepth 100000 in
theorem laid_accept : (Rows.laid_unicode_utf8_acceptRanges : DataW Unit) = Lib.acceptData := by rfl
set_option maxRecDepth 100000 in
theorem laid_first : Rows.laid_unicode_utf8_first = Lib.firstData := by kernel_rfl
def verbD : List (Int × List UInt8 × Bool) := [(1, [98, 101, 103, 105, 110], false), (2, [114, 101, 97, 100], true), (3, [119, 114, 105, 116, 101], true), (4, [111, 107], false), (5, [102, 97, 105, 108], false), (6, [105, 110, 102, 111], false)]
def verbW (x : Int × List UInt8 × Bool) : DataW Unit := .agg [.lit (.int .i64 x.1), .lit (.string x.2.1), .lit (.bool x.2.2)]
theorem laid_verbs : (Rows.laid_deemster_event_verbs : DataW Unit) = .agg (verbD.map verbW) := by rfl

set_option maxRecDepth 100000 in
theorem tabs_of_laid {W : World} (h : laidMetH Tryz.prog laidL W) : UTabs W := by
  rw [MakeChecks.laidMetH_plain _ _ _ (by kernel_rfl)] at h
  unfold laidL at h
  rw [laid_accept, laid_first] at h
  exact utf8Tabs_of_readsT (U8Types.of196 Tryz.laysValid) ⟨by kernel_rfl, by kernel_rfl, by kernel_rfl, by kernel_rfl, by kernel_rfl, by kernel_rfl, by kernel_rfl⟩ (Lib.laidMet.reads h (.tail _ (.tail _ (.head _)))) (Lib.laidMet.reads h (.head _))

set_option maxRecDepth 100000 in
theorem verb_reads {W : World} {fuel : Nat} {cs : List Value} {x : Int × List UInt8 × Bool} {q : List MemPlace} (h : DataW.trod (fun _ => ()) Tryz.prog W 0 (fun _ => true) false fuel 103 cs = some (verbW x, q)) :
    cs = [.int .i64 x.1, .string ⟨x.2.1.toArray⟩, .bool x.2.2] := by
  obtain ⟨y0, y1, y2, n, hx, hl, h0, h1, h2⟩ := Go.Deep.trod_struct3 Tryz.underlying103 h
  rw [show Tryz.prog.cellsOf 103 = 3 by kernel_rfl] at hl
  match cs, hl with
  | [c0, c1, c2], _ =>
    have k0 : Tryz.prog.cellsOf 3 = 1 := by kernel_rfl
    have k1 : Tryz.prog.cellsOf 9 = 1 := by kernel_rfl
    have k2 : Tryz.prog.cellsOf 4 = 1 := by kernel_rfl
    dsimp only at h0 h1 h2
    rw [k0] at h0
    rw [k1] at h1
    rw [k2] at h2
    obtain ⟨a, e0, f0, -⟩ := DataW.trod_int Tryz.underlying3 (by simpa using h0)
    obtain ⟨s, e1, f1, -⟩ := DataW.trod_string Tryz.underlying9 (by simpa using h1)
    obtain ⟨b, e2, f2⟩ := DataW.trod_bool Tryz.underlying4 (by simpa using h2)
    simp at e0 e1 e2
    subst e0 e1 e2 f0 f1 f2
    obtain ⟨x0, x1, x2⟩ := x
    simp [verbW] at hx
    obtain ⟨⟨rfl, rfl, rfl⟩, -⟩ := hx
    rfl

set_option maxRecDepth 100000 in
theorem verbs_of_laid {W : World} (h : laidMetH Tryz.prog laidL W) : Verbs W := by
  rw [MakeChecks.laidMetH_plain _ _ _ (by kernel_rfl)] at h
  unfold laidL at h
  rw [laid_verbs] at h
  obtain ⟨g, t, cs, fuel, p, hg, hty, hvar, hd⟩ := Lib.laidMet.reads h (.tail _ (.head _))
  obtain rfl := Option.some.inj ((show Tryz.prog.globalNamed "deemster/event.verbs" = some 0 by kernel_rfl).symm.trans hg)
  obtain rfl := Option.some.inj ((show (Tryz.prog.globals[0]?).map (·.type) = some 134 by kernel_rfl).symm.trans hty)
  have key : ∀ (j : Nat) (x : Int × List UInt8 × Bool), j < 6 → verbD[j]? = some x → W.cell? ⟨0, j * 3, none⟩ = some (.int .i64 x.1) ∧ W.cell? ⟨0, j * 3 + 1, none⟩ = some (.string ⟨x.2.1.toArray⟩) ∧ W.cell? ⟨0, j * 3 + 2, none⟩ = some (.bool x.2.2) := by
    intro j x hj hx
    obtain ⟨fuel', d, q, hdi, he⟩ := Lib.array_elem Tryz.underlying134 hd j hj
    rw [List.getElem?_map, hx] at hdi
    simp only [Option.map_some, Option.some.injEq] at hdi
    subst hdi
    rw [show Tryz.prog.cellsOf 103 = 3 by kernel_rfl] at he
    have hcs := verb_reads he
    have e0 := congrArg (·[0]?) hcs
    have e1 := congrArg (·[1]?) hcs
    have e2 := congrArg (·[2]?) hcs
    simp only [List.getElem?_take, List.getElem?_drop] at e0 e1 e2
    refine ⟨?_, ?_, ?_⟩
    · rw [World.var?_cell hg hvar (j * 3), ← Array.getElem?_toList]
      simpa using e0
    · rw [World.var?_cell hg hvar (j * 3 + 1), ← Array.getElem?_toList]
      simpa using e1
    · rw [World.var?_cell hg hvar (j * 3 + 2), ← Array.getElem?_toList]
      simpa using e2
  have k0 := key 0 _ (by omega) rfl
  have k1 := key 1 _ (by omega) rfl
  have k2 := key 2 _ (by omega) rfl
  have k3 := key 3 _ (by omega) rfl
  have k4 := key 4 _ (by omega) rfl
  have k5 := key 5 _ (by omega) rfl
  refine ⟨World.block_lt_of_cell? W _ k0.1, fun i u hu => ?_⟩
  have hi : i < 18 := by
    have := (List.getElem?_eq_some_iff.1 hu).1
    exact this
  have hc : i = 0 ∨ i = 1 ∨ i = 2 ∨ i = 3 ∨ i = 4 ∨ i = 5 ∨ i = 6 ∨ i = 7 ∨ i = 8 ∨ i = 9 ∨ i = 10 ∨ i = 11 ∨ i = 12 ∨ i = 13 ∨ i = 14 ∨ i = 15 ∨ i = 16 ∨ i = 17 := by omega
  rcases hc with rfl | rfl | rfl | rfl | rfl | rfl | rfl | rfl | rfl | rfl | rfl | rfl | rfl | rfl | rfl | rfl | rfl | rfl
  · obtain rfl := Option.some.inj hu
    exact k0.1
  · obtain rfl := Option.some.inj hu
    exact k0.2.1
  · obtain rfl := Option.some.inj hu
    exact k0.2.2
  · obtain rfl := Option.some.inj hu
    exact k1.1
  · obtain rfl := Option.some.inj hu
    exact k1.2.1
  · obtain rfl := Option.some.inj hu
    exact k1.2.2
  · obtain rfl := Option.some.inj hu
    exact k2.1
  · obtain rfl := Option.some.inj hu
    exact k2.2.1
  · obtain rfl := Option.some.inj hu
    exact k2.2.2
  · obtain rfl := Option.some.inj hu
    exact k3.1
  · obtain rfl := Option.some.inj hu
    exact k3.2.1
  · obtain rfl := Option.some.inj hu
    exact k3.2.2
  · obtain rfl := Option.some.inj hu
    exact k4.1
  · obtain rfl := Option.some.inj hu
    exact k4.2.1
  · obtain rfl := Option.some.inj hu
    exact k4.2.2
  · obtain rfl := Option.some.inj hu
    exact k5.1
  · obtain rfl := Option.some.inj hu
    exact k5.2.1
  · obtain rfl := Option.some.inj hu
    exact k5.2.2

end Go.Proofs.YthaeomdpaadilaaGreatDoor
