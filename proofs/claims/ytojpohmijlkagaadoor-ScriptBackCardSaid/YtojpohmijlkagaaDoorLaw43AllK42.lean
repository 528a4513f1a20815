/- Parts. -/
import Derived.Test.YtojpohmijlkagaaDoorLaw43AllK40
import Derived.Test.YtojpohmijlkagaaDoorLaw43AllK41
import Derived.Handed
import Derived.Shelf.Vars
import Derived.HandedShaped
set_option maxRecDepth 10000
set_option maxHeartbeats 16000000
set_option linter.unusedVariables false
set_option linter.unusedSimpArgs false
namespace Go.Proofs.YtojpohmijlkagaaDoor
open Go.RowKit
open Go.Lib hiding intOf
attribute [local go_sem ↓] Go.wp_at_zero Go.wp_at_succ
theorem scrGo_len : ∀ (xs : List ByteArray) (i : Nat) (acc : List Cmd), acc.length ≤ 200 → (scrGo xs i acc).1.length ≤ 200
 | [], _, acc, h => h
 | s :: r, i, acc, h => by
  rw [scrGo]
  cases e : textsOf s with
  | nil => exact scrGo_len r (i + 1) acc h
  | cons w t =>
   dsimp only
   split
   ·simp
   ·split
    ·simp
    ·exact scrGo_len r (i + 1) _ (by rw [List.length_append]; simp; omega)
theorem scrR_len (s : ByteArray) : (scrR s).1.length ≤ 200 := by
 unfold scrR
 split
 ·simp
 ·split
  ·simp
  ·exact scrGo_len _ _ _ (by simp)
theorem scrR_long {s : ByteArray} (h : 65536 < s.size) : scrR s = ([], 0, 6) := by unfold scrR; rw [if_pos h]
theorem cut43_size (s : ByteArray) : (cut43 s).size = 65537 ∨ (cut43 s).size ≤ 4000 := by
 unfold cut43
 by_cases h : 65536 < s.size
 ·rw [if_pos h, ByteArray.size_extract];omega
 ·rw [if_neg h, ByteArray.size_extract];omega
theorem sparse43_long (s : ByteArray) (w : World) (hs : 65536 < s.size) :
  Calls Tryd.prog 7 #[.string s] w fun e w' => e = .returned (.tuple #[.slice none 0 0, .int .i64 0, .int .i64 6]) ∧ w = w' := by
 have HOF := Hd (of_long s w hs);go_enter Tryd.func7, Tryd.ntmps7;go_wp2
 go_step3
 go_upto_region 1 with (fail)
 go_wp2_with fail
 refine (HOF.out).mono ?_;rintro e w1 ⟨rfl, rfl⟩;go_wp2
 try rw [Exit.noGoto_ret]
 go_ret3
 exact ⟨rfl, rfl⟩
theorem rsparse43_long (s : ByteArray) (w : World) (hs : 65536 < s.size) :
  Calls Tryd.prog 8 #[.string s] w fun e w' => e = .returned (.tuple #[.slice none 0 0, .int .i64 0, .int .i64 6]) ∧ w = w' := by
 have HOF := Hd (rof_long s w hs);go_enter Tryd.func8, Tryd.ntmps8;go_wp2_with fail
 refine (HOF.out).mono ?_;rintro e w1 ⟨rfl, rfl⟩;go_wp2
 go_ret3
 exact ⟨rfl, rfl⟩
theorem sparse43_cut (s : ByteArray) (w : World) (hT : UTabs w) (hM : MLen w) (hS : Scrs w) :
  Calls Tryd.prog 7 #[.string (cut43 s)] w fun e w' => ∃ A c, (e = .returned (.tuple #[.slice A (scrR (cut43 s)).1.length c, .int .i64 (scrR (cut43 s)).2.1, .int .i64 (scrR (cut43 s)).2.2]) ∧ w'.ownsRow w.heap.size 40 3 (.slice A (scrR (cut43 s)).1.length c) (scrR (cut43 s)).1.length (cmdC (scrR (cut43 s)).1)) ∧ Only [] w w' := by
 rcases cut43_size s with h | h
 ·rw [scrR_long (by omega)];refine (sparse43_long _ w (by omega)).mono ?_;rintro e w' ⟨rfl, rfl⟩;exact ⟨none, 0, ⟨rfl, World.ownsRow_nil _ _ _ _⟩, Only.refl _ _⟩
 ·exact sparse43_any _ w (by omega) (small_rows (by omega)) hT hM hS
theorem rsparse43_cut (s : ByteArray) (w : World) :
  Calls Tryd.prog 8 #[.string (cut43 s)] w fun e w' => ∃ A c, (e = .returned (.tuple #[.slice A (scrR (cut43 s)).1.length c, .int .i64 (scrR (cut43 s)).2.1, .int .i64 (scrR (cut43 s)).2.2]) ∧ w'.ownsRow w.heap.size 42 3 (.slice A (scrR (cut43 s)).1.length c) (scrR (cut43 s)).1.length (cmdC (scrR (cut43 s)).1)) ∧ Only [] w w' := by
 rcases cut43_size s with h | h
 ·rw [scrR_long (by omega)];refine (rsparse43_long _ w (by omega)).mono ?_;rintro e w' ⟨rfl, rfl⟩;exact ⟨none, 0, ⟨rfl, World.ownsRow_nil _ _ _ _⟩, Only.refl _ _⟩
 ·exact rsparse43_any _ w (by omega) (small_rows (by omega))
set_option maxRecDepth 100000 in
theorem scriptParses_walk (s : ByteArray) (w : World) (hs : s.size ≤ 9223372036854775807) (hT : UTabs w) (hM : MLen w) (hS : Scrs w) :
  Calls Tryd.prog 3 #[.string s] w fun e w' => e = .returned (.bool true) ∧ Only [] w w' := by
 have HC := Hd (cut43_any s w hs);have HP := Hd (sparse43_cut s w hT hM hS);have HRP := Hd (fun w' => rsparse43_cut s w');have HW := Hd (fun w' (hO : Only [] w w') => works43_any w' (hT.only hO) (hM.only hO) (hS.only hO));have hlen := scrR_len (cut43 s);generalize cut43 s = x at *;generalize scrR x = pr at *;obtain ⟨l, num, er⟩ := pr;dsimp only at HP HRP hlen;clear hT hM hS hs;go_enter Tryd.func3, Tryd.ntmps3;go_wp2_with fail
 refine (HC.out).mono ?_;rintro e w0 ⟨rfl, rfl⟩;go_wp2_with fail
 refine (HP.out).mono ?_;rintro e w1 ⟨A, c, ⟨rfl, hown⟩, O1⟩;obtain ⟨A1', c1', e1, -, -, -, hrw⟩ := own_row hown;injection e1 with e1 e2 e3;subst e1 e3;have HO1 := Hd O1;have HR1 := Hd hrw;clear O1 hown hrw HP e2;go_wp2_with fail
 refine (HRP.out _).mono ?_;rintro e w2 ⟨A2, c2, ⟨rfl, hown⟩, O2⟩;obtain ⟨A2', c2', e1, -, -, -, hrw⟩ := own_row hown;injection e1 with e1 e2 e3;subst e1 e3;have HO2 := Hd (HO1.out.trans O2);have HR2 := Hd (HR1.out.only O2 (by simp));have HQ2 := Hd hrw;have HB := Hd (back43_any A l.length c _ l w2 HR2.out rfl (by omega));clear O2 hown hrw HRP e2 HO1 HR1 HR2;go_wp2_with fail
 refine (HB.out).mono ?_;rintro e w3 ⟨V3, ⟨rfl, hown⟩, O3⟩;obtain ⟨A3, c3, rfl, -, -, -, hrw⟩ := own_row hown;have HO3 := Hd (HO2.out.trans O3);have HSM := Hd (same43_eq A3 A2 l.length c3 c2 l w3 _ _ hrw (HQ2.out.only O3 (by simp)) rfl (by omega));clear O3 hown hrw HB HQ2 HO2;go_wp2_with fail
 refine (HSM.out).mono ?_;rintro e w4 ⟨rfl, k, rfl⟩;have HO4 := Hd (HO3.out.drewN k);go_wp2_with fail
 refine (HW.out _ HO4.out).mono ?_;rintro e w5 ⟨rfl, O5⟩;have HO5 := Hd (HO4.out.trans O5);clear O5;go_wp2
 go_ret
 exact ⟨rfl, HO5.out⟩
end Go.Proofs.YtojpohmijlkagaaDoor
namespace Go.Proofs.YtojpohmijlkagaaDoor
open Go.ChangeShapes Go.WideShapes Go.ChangeAt Go.RowKit
theorem handed_and_shaped {H : Type} {enc : TypeId × Value → H} {a : Assume} {C : Checked} {os : Os} {f : FuncId} {fn : Func} {s : ChangeSpec} {conds : List PathCond} {apart fresh handsOn again : Bool} {X : World → Array Value → Prop}
  (hX : ∀ (w w' : World) (args : Array Value), w.heap = w'.heap → X w args → X w' args)
  (own : ownKnob C.prog.godebug = none) (started : os.Started) (noInit : C.prog.inits.idxOf? f = none) (hfn : C.prog.funcs[f]? = some fn)
  (witness : ∃ (w : World) (tape : Tape) (i : Input), w.os = os ∧ (w.forCall tape i).Shaped C.prog ∧ i.vars = [] ∧ Input.okWide C.prog (w.forCall tape i) .any w.heap.size f i ∧
   ((s.pre enc C.prog fn conds apart (w.forCall tape i).memory i.args ∧ X (w.forCall tape i).memory i.args) ∧ sizedMet enc C.prog fn (OpenSpec.ofChange s) apart (w.forCall tape i).memory i.args) ∧ a.holds C.prog (lone (Frame.enter C.prog f i.args .normal) [] (w.forCall tape i)))
  (contract : ∀ (W : World) (base : Nat) (args : Array Value) (ds gs : List (DataW H)) (before : List MemPlace),
   (∀ (j : Nat) t v, fn.params[j]? = some t → args[j]? = some v → Value.okWide C.prog W .any base t v) →
   DataW.Whole enc C.prog fn.params.toList s.vars apart W args.toList ds gs before →
   W.ShapedOpen C.prog →
   (DataW.weightsEach C.prog (fn.params.toList ++ s.plain.varTypes C.prog) (ds ++ gs)).all (· ≤ reachBytes) = true → X W args →
   a.holds C.prog (lone (Frame.enter C.prog f args .normal) [] W) →
   Calls C.prog f args W fun e W' => ∃ v, e = .returned v ∧ s.post enc C.prog fn apart fresh handsOn again W args v W') :
  ReturnsInHanded a C os f .any (fun w args => (s.pre enc C.prog fn conds apart w args ∧ X w args) ∧ sizedMet enc C.prog fn (OpenSpec.ofChange s) apart w args) (s.post enc C.prog fn apart fresh handsOn again) := by
 refine returnsInHanded_of_calls own started noInit witness ?_;intro w tape i _ hsh _ hok hpre hholds;obtain ⟨_, _, _, fn', hfn', _, _, _, _, hval⟩ := hok;have e : fn' = fn := Option.some.inj (hfn'.symm.trans hfn);subst e;obtain ⟨⟨⟨ds, gs, before, hw, hc⟩, hx⟩, hz⟩ := hpre;have hw' := DataW.Whole.of_heap (w' := w.forCall tape i) (by rfl) hw;refine (contract (w.forCall tape i) w.heap.size i.args ds gs before hval hw' hsh (hz.weights hw) (hX _ _ _ (by rfl) hx) hholds).mono fun e W' ⟨v, he, hp⟩ => ?_;subst he;exact ChangeSpec.post_blind hp
theorem mlen_of_shaped {W : World} (h : W.ShapedOpen Tryd.prog) : MLen W :=
 Go.Proofs.cell_of_shapedOpen_int (zero := #[.int .i64 0]) (t := 3) h (of_decide_eq_true (by kernel_rfl)) (by kernel_rfl) rfl (by kernel_rfl) (by kernel_rfl) Tryd.underlying3
end Go.Proofs.YtojpohmijlkagaaDoor
