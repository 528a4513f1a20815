/- Events in a slice; the document's Same of the same; the law's works of layer 8. The law LogParses: its walk. A row's wrap that hands the walk both the laid variables and the world's shape. -/
import Derived.Test.YtbenjknaklafmaaDoorLogParsesCardK33
import Derived.Deep.QuietTactic
import Derived.BigQuiet
import Derived.Test.YtbenjknaklafmaaDoorLogParsesCardK47
import Derived.Handed
import Derived.Shelf.Vars
import Derived.HandedShaped
import Derived.Test.YtbenjknaklafmaaDoorLogParsesCardK23
set_option linter.unusedVariables false
set_option linter.unusedSimpArgs false
namespace Go.Proofs.YtbenjknaklafmaaDoor
open Go.RowKit
open Go.Lib hiding intOf
attribute [local go_sem ↓] Go.wp_at_zero Go.wp_at_succ

/-- The cells from a place on are an event's. -/
structure EvAt (w : World) (b o : Nat) (x : Ev6) : Prop where
  c0 : w.cell? ⟨b, o, none⟩ = some (.int .i64 x.k)
  c1 : w.cell? ⟨b, o + 1, none⟩ = some (.string x.s)
  c2 : w.cell? ⟨b, o + 2, none⟩ = some (.string x.y)
  c3 : w.cell? ⟨b, o + 3, none⟩ = some (.int .i64 x.vk)
  c4 : w.cell? ⟨b, o + 4, none⟩ = some (.int .i64 x.vn)
  c5 : w.cell? ⟨b, o + 5, none⟩ = some (.int .i64 x.ln)
theorem EvAt.only {S : List Nat} {w w' : World} {b o : Nat} {x : Ev6} (h : EvAt w b o x) (ho : Only S w w') (hb : b < w.heap.size) (hs : b ∉ S) : EvAt w' b o x :=
  ⟨(ho.cell (p := ⟨b, o, none⟩) hb hs).trans h.c0, (ho.cell (p := ⟨b, o + 1, none⟩) hb hs).trans h.c1, (ho.cell (p := ⟨b, o + 2, none⟩) hb hs).trans h.c2, (ho.cell (p := ⟨b, o + 3, none⟩) hb hs).trans h.c3,
    (ho.cell (p := ⟨b, o + 4, none⟩) hb hs).trans h.c4, (ho.cell (p := ⟨b, o + 5, none⟩) hb hs).trans h.c5⟩
theorem row_ev {w : World} {B : Nat} {A : Option Addr} {l : List Ev6} (h : Row w B A (logC l)) {k : Nat} {x : Ev6} (hk : l[k]? = some x) : ∃ b off, A = some ⟨b, off, none⟩ ∧ b < B ∧ b < w.heap.size ∧ EvAt w b (off + k * 6) x := by
  have hlt := (List.getElem?_eq_some_iff.1 hk).1
  obtain ⟨b, off, rfl, h1, h2, hc⟩ := h.open_ (k := k * 6) (by rw [logC_len]; omega)
  have g := logC_get l k x hk
  refine ⟨b, off, rfl, h1, h2, ⟨?_, ?_, ?_, ?_, ?_, ?_⟩⟩
  · exact hc (k * 6) _ (g 0 (by omega))
  · rw [Nat.add_assoc]; exact hc _ _ (g 1 (by omega))
  · rw [Nat.add_assoc]; exact hc _ _ (g 2 (by omega))
  · rw [Nat.add_assoc]; exact hc _ _ (g 3 (by omega))
  · rw [Nat.add_assoc]; exact hc _ _ (g 4 (by omega))
  · rw [Nat.add_assoc]; exact hc _ _ (g 5 (by omega))

set_option maxRecDepth 10000 in
set_option maxHeartbeats 2000000 in
theorem sameLog_eq (A A' : Option Addr) (n c d : Nat) (l : List Ev6) (w : World) (B B' : Nat) (hA : Row w B A (logC l)) (hA' : Row w B' A' (logC l)) (hn : l.length = n) (hnm : n ≤ 1000000) :
    Calls Tryd.prog 9 #[.slice A n c, .slice A' n d] w fun e w' => e = .returned (.bool true) ∧ ∃ k, w.drewN k = w' := by
  have HA := Lib.hid hA
  have HA' := Lib.hid hA'
  have HN := Lib.hid hn
  clear hA hA' hn
  go_enter Tryd.func9, Tryd.ntmps9
  go_wp2_with fail
  go_loopw [5] (fun i wr => ∃ k q : Nat, i = .int .i64 k ∧ k ≤ n ∧ Hid (wr = w.drewN q)) (fun i _ => n - (intOf i).toNat)
  case atStart => exact ⟨0, 0, rfl, by omega, rfl⟩
  case round =>
    obtain ⟨k, q, rfl, hk, hw⟩ := hrel
    by_cases hlt : k < n
    · obtain ⟨x, hx⟩ : ∃ x, l[k]? = some x := ⟨_, List.getElem?_eq_getElem (by rw [HN.out]; exact hlt)⟩
      obtain ⟨b, off, rfl, -, hbw, h1⟩ := row_ev HA.out hx
      obtain ⟨b', off', rfl, -, hbw', h2⟩ := row_ev HA'.out hx
      obtain ⟨a0, a1, a2, a3, a4, a5⟩ := (show EvAt wr b (off + k * 6) x by rw [hw.out]; exact h1.only ((Only.refl [] w).drewN q) hbw (by simp))
      obtain ⟨d0, d1, d2, d3, d4, d5⟩ := (show EvAt wr b' (off' + k * 6) x by rw [hw.out]; exact h2.only ((Only.refl [] w).drewN q) hbw' (by simp))
      obtain ⟨xk, xs, xy, xvk, xvn, xln⟩ := x
      dsimp only at a0 a1 a2 a3 a4 a5 d0 d1 d2 d3 d4 d5
      have hk0 : (0 : Int) ≤ (k : Int) := Int.natCast_nonneg _
      have hk1 : (k : Int) < (n : Int) := by omega
      have hs1 : (xs.toList == xs.toList) = true := by simp
      have hs2 : (xy.toList == xy.toList) = true := by simp
      have hwk : IntKind.i64.wrap ((k : Int) + 1) = (k : Int) + 1 := IntWalk.i64_in _ (by omega)
      clear hx h1 h2
      go_wp2_with fail
      go_quiet (fail)
      go_wp2
      go_roundw
      case rel =>
        refine ⟨k + 1, q + nq, by go_num, by omega, ?_⟩
        show _ = _
        rw [hw.out, World.drewN_drewN]
      case measure => simp [intOf]; omega
    · have hkn : k = n := by omega
      subst hkn
      have hd : decide ((k : Int) < (k : Int)) = false := by simp
      go_wp2
      go_ret
      exact ⟨rfl, q, hw.out.symm⟩

def ex8 : ByteArray := ⟨#[98, 101, 103, 105, 110, 32, 115, 10, 10, 111, 107, 32, 115]⟩
theorem ex8_parse : logParse ex8 = ([⟨1, ⟨#[115]⟩, ⟨#[]⟩, 0, 0, 1⟩, ⟨4, ⟨#[115]⟩, ⟨#[]⟩, 0, 0, 3⟩], 0, 0) := by kernel_rfl
theorem ex8_rows : (linesOf (by_ ex8)).all (fun x => decide (x.length ≤ 65535)) = true := by kernel_rfl

set_option maxRecDepth 10000 in
set_option maxHeartbeats 2000000 in
theorem works08_any (w : World) (hT : UTabs w) (hM : MLen w) (hV : Verbs w) :
    Calls Tryd.prog 10 #[] w fun e w' => e = .returned (.bool true) ∧ Only [] w w' := by
  have HP := Lib.hid (logparse_any ex8 w (by decide) (fun x hx => by simpa using List.all_eq_true.1 ex8_rows x hx) hT hM hV)
  rw [ex8_parse] at HP
  unfold ex8 at HP
  clear hT hM hV
  go_enter Tryd.func10, Tryd.ntmps10
  go_wp2_with fail
  refine (HP.out).mono ?_
  rintro e w1 ⟨O1, V, rfl, hown⟩
  obtain ⟨A, c, hVs, -, -, -, hrow⟩ := own_row hown
  have hVs : V = .slice A 2 c := hVs
  subst hVs
  obtain ⟨b, off, rfl, -, hbw, h1⟩ := row_ev hrow (k := 1) rfl
  obtain ⟨a0, a1, a2, a3, a4, a5⟩ := h1
  simp at a0 a1 a2 a3 a4 a5
  have HO1 := Lib.hid O1
  clear O1 hown hrow
  go_wp2
  go_ret
  exact ⟨rfl, HO1.out⟩

end Go.Proofs.YtbenjknaklafmaaDoor

set_option linter.unusedVariables false
set_option linter.unusedSimpArgs false
namespace Go.Proofs.YtbenjknaklafmaaDoor
open Go.RowKit
open Go.Lib hiding intOf
attribute [local go_sem ↓] Go.wp_at_zero Go.wp_at_succ

def cut8 (s : ByteArray) : ByteArray := s.extract 0 (min s.size 12000)
theorem cut8_size (s : ByteArray) : (cut8 s).size ≤ 12000 := by
  unfold cut8
  rw [ByteArray.size_extract]
  omega
theorem cut8_any (s : ByteArray) (w : World) (hs : s.size ≤ 9223372036854775807) :
    Calls Tryd.prog 6 #[.string s] w fun e w' => e = .returned (.string (cut8 s)) ∧ w = w' := by
  unfold cut8
  obtain ⟨q, hq⟩ : ∃ q, q = min s.size 12000 := ⟨_, rfl⟩
  rw [← hq]
  have hmin : min (s.size : Int) 12000 = (q : Int) := by omega
  have hq1 : (0 : Int) ≤ (q : Int) := Int.natCast_nonneg _
  have hq2 : (q : Int) ≤ (s.size : Int) := by omega
  clear hq
  go_enter Tryd.func6, Tryd.ntmps6
  go_wp2
  go_ret
  exact ⟨rfl, rfl⟩
theorem logOf_len : ∀ (rs : List ByteArray) (i : Int) (acc : List Ev6), acc.length ≤ 1000 → (logOf rs i acc).1.length ≤ 1000
  | [], _, acc, h => h
  | r :: rs, i, acc, h => by
    unfold logOf
    split
    · exact logOf_len rs _ _ (stepL_len acc i r h)
    · simp
theorem logParse_len (s : ByteArray) : (logParse s).1.length ≤ 1000 := by
  unfold logParse
  split
  · simp
  · split
    · simp
    · exact logOf_len _ _ _ (by simp)

set_option maxRecDepth 100000 in
set_option maxHeartbeats 8000000 in
theorem logParses_walk (s : ByteArray) (w : World) (hs : s.size ≤ 9223372036854775807) (hT : UTabs w) (hM : MLen w) (hV : Verbs w) :
    Calls Tryd.prog 3 #[.string s] w fun e w' => e = .returned (.bool true) ∧ Only [] w w' := by
  have HS := Lib.hid (cut8_any s w hs)
  have hsz := cut8_size s
  generalize cut8 s = x at *
  have hrow : ∀ l ∈ linesOf (by_ x), l.length ≤ 65535 := fun l hl => by
    have hb := by_length x
    unfold linesOf at hl
    have := cutL_mem (by_ x) [] l hl
    simp at this
    omega
  have HP := Lib.hid (logparse_any x w (by omega) hrow hT hM hV)
  have HRP := Lib.hid (fun w' => rlogparse_any x w' (by omega) hrow)
  have HW := Lib.hid (fun w' (hO : Only [] w w') => works08_any w' (hT.only hO) (hM.only hO) (hV.only hO))
  have hlen := logParse_len x
  generalize logParse x = pr at *
  obtain ⟨l, num, er⟩ := pr
  dsimp only at HP HRP hlen
  clear hT hM hV hrow hsz hs
  go_enter Tryd.func3, Tryd.ntmps3
  go_wp2_with fail
  refine (HS.out).mono ?_
  rintro e w0 ⟨rfl, rfl⟩
  go_wp2_with fail
  refine (HP.out).mono ?_
  rintro e w1 ⟨O1, V, rfl, hown⟩
  obtain ⟨A, c, rfl, -, -, -, hrw⟩ := own_row hown
  have HO1 := Lib.hid O1
  have HR1 := Lib.hid hrw
  clear O1 hown hrw HP
  go_wp2_with fail
  refine (HRP.out _).mono ?_
  rintro e w2 ⟨O2, A', c', rfl, hrw⟩
  have HO2 := Lib.hid (HO1.out.trans O2)
  have HSM := Lib.hid (sameLog_eq A A' l.length c c' l w2 _ _ (HR1.out.only O2 (by simp)) hrw rfl (by omega))
  clear O2 hrw HRP
  go_wp2_with fail
  refine (HSM.out).mono ?_
  rintro e w3 ⟨rfl, k, rfl⟩
  have HO3 := Lib.hid (HO2.out.drewN k)
  go_wp2_with fail
  refine (HW.out _ HO3.out).mono ?_
  rintro e w4 ⟨rfl, O4⟩
  have HO4 := Lib.hid (HO3.out.trans O4)
  clear O4
  go_wp2
  go_ret
  exact ⟨rfl, HO4.out⟩

end Go.Proofs.YtbenjknaklafmaaDoor

set_option linter.unusedVariables false
set_option linter.unusedSimpArgs false
namespace Go.Proofs.YtbenjknaklafmaaDoor
open Go.ChangeShapes Go.WideShapes Go.ChangeAt Go.RowKit

theorem handed_and_shaped {H : Type} {enc : TypeId × Value → H} {a : Assume} {C : Checked} {os : Os} {f : FuncId} {fn : Func} {s : ChangeSpec} {conds : List PathCond} {apart fresh handsOn again : Bool} {X : World → Array Value → Prop}
    (hX : ∀ (w w' : World) (args : Array Value), w.heap = w'.heap → X w args → X w' args)
    (own : ownKnob C.prog.godebug = none) (started : os.Started) (noInit : C.prog.inits.idxOf? f = none) (hfn : C.prog.funcs[f]? = some fn)
    (witness : ∃ (w : World) (tape : Tape) (i : Input), w.os = os ∧ (w.forCall tape i).Shaped C.prog ∧ i.vars = [] ∧ Input.okWide C.prog (w.forCall tape i) .any w.heap.size f i ∧
      ((s.pre enc C.prog fn conds apart (w.forCall tape i).memory i.args ∧ X (w.forCall tape i).memory i.args) ∧ sizedMet enc C.prog fn (OpenSpec.ofChange s) apart (w.forCall tape i).memory i.args) ∧ a.holds C.prog (lone (Frame.enter C.prog f i.args .normal) [] (w.forCall tape i)))
    (contract : ∀ (W : World) (base : Nat) (args : Array Value) (ds gs : List (DataW H)) (before : List MemPlace),
      (∀ (j : Nat) t v, fn.params[j]? = some t → args[j]? = some v → Value.okWide C.prog W .any base t v) →
      DataW.Whole enc C.prog fn.params.toList s.vars apart W args.toList ds gs before →
      W.ShapedOpen C.prog →
      (DataW.weightsEach C.prog (fn.params.toList ++ s.plain.varTypes C.prog) (ds ++ gs)).all (· ≤ reachBytes) = true → X W args →
      a.holds C.prog (lone (Frame.enter C.prog f args .normal) [] W) →
      Calls C.prog f args W fun e W' => ∃ v, e = .returned v ∧ s.post enc C.prog fn apart fresh handsOn again W args v W') :
    ReturnsInHanded a C os f .any (fun w args => (s.pre enc C.prog fn conds apart w args ∧ X w args) ∧ sizedMet enc C.prog fn (OpenSpec.ofChange s) apart w args) (s.post enc C.prog fn apart fresh handsOn again) := by
  refine returnsInHanded_of_calls own started noInit witness ?_
  intro w tape i _ hsh _ hok hpre hholds
  obtain ⟨_, _, _, fn', hfn', _, _, _, _, hval⟩ := hok
  have e : fn' = fn := Option.some.inj (hfn'.symm.trans hfn)
  subst e
  obtain ⟨⟨⟨ds, gs, before, hw, hc⟩, hx⟩, hz⟩ := hpre
  have hw' := DataW.Whole.of_heap (w' := w.forCall tape i) (by rfl) hw
  refine (contract (w.forCall tape i) w.heap.size i.args ds gs before hval hw' hsh (hz.weights hw) (hX _ _ _ (by rfl) hx) hholds).mono fun e W' ⟨v, he, hp⟩ => ?_
  subst he
  exact ChangeSpec.post_blind hp

theorem mlen_of_shaped {W : World} (h : W.ShapedOpen Tryd.prog) : MLen W :=
  Go.Proofs.cell_of_shapedOpen_int (zero := #[.int .i64 0]) (t := 3) h (of_decide_eq_true (by kernel_rfl)) (by kernel_rfl) rfl (by kernel_rfl) (by kernel_rfl) Tryd.underlying3

end Go.Proofs.YtbenjknaklafmaaDoor
