/- The bounds of a history's events. Events in a slice; the document's Same of the same; the law's works of layer 8. ShowEvents: the walk. A row's wrap that hands the walk both the laid variables and the world's shape. The table of an event's words and the tables of unicode/utf8 lie where the program's text lays them. -/
import Derived.Test.YthaeomdpaadilaaGreatDoorShowEventsCardK10
import Derived.Test.YthaeomdpaadilaaGreatDoorShowEventsCardK34
import Derived.Test.YthaeomdpaadilaaGreatDoorShowEventsCardK48
import Derived.Test.YthaeomdpaadilaaGreatDoorShowEventsCardK19
import Derived.Test.YthaeomdpaadilaaGreatDoorShowEventsCardK33
import Derived.Deep.QuietTactic
import Derived.BigQuiet
import Derived.Test.YthaeomdpaadilaaGreatDoorShowEventsCardK47
import Derived.Test.YthaeomdpaadilaaGreatDoorShowEventsCardK21
import Derived.Handed
import Derived.Shelf.Vars
import Derived.HandedShaped
import Derived.Test.YthaeomdpaadilaaGreatDoorShowEventsCardK28
import Derived.Test.YthaeomdpaadilaaGreatDoorShowEventsCardK5
import Derived.LaidMore
import Derived.Lib.LaidIn
import Derived.Lib.LaidU8T
import Derived.Stop.Joined
import Derived.JoinedOf
set_option linter.unusedVariables false
set_option linter.unusedSimpArgs false
namespace Go.Proofs.YthaeomdpaadilaaGreatDoor

theorem nth_size {l : List ByteArray} {m : Nat} (h : ∀ z ∈ l, z.size ≤ m) (i : Int) : (nth l i).size ≤ m := by
  unfold nth
  cases hx : l[i.toNat]? with
  | none => exact Nat.zero_le _
  | some z => exact h z (List.mem_of_getElem? hx)
theorem adE_bounds {acc : List Ev6} {k vk vn : Int} {s y : ByteArray} (h : ∀ x ∈ acc, EvB x) (hs : s.size ≤ 2000) (hy : y.size ≤ 2000) (h1 : -9223372036854775808 ≤ vn ∧ vn ≤ 9223372036854775807) : ∀ x ∈ adE acc k s y vk vn, EvB x := by
  intro x hx
  unfold adE at hx
  rcases List.mem_append.1 hx with hx | hx
  · exact h x hx
  · simp only [List.mem_cons, List.not_mem_nil, or_false] at hx
    subst hx
    exact ⟨hs, hy, h1.1, h1.2⟩
theorem adO_bounds {ks : List ByteArray} {s : ByteArray} (hk : ∀ z ∈ ks, z.size ≤ 2000) (hs : s.size ≤ 2000) : ∀ (ops : List Op4) (acc : List Ev6), (∀ x ∈ ops, OpI x) → (∀ x ∈ acc, EvB x) → ∀ x ∈ ops.foldl (addO ks s) acc, EvB x
  | [], acc, _, h => h
  | o :: ops, acc, ho, h => adO_bounds hk hs ops (addO ks s acc o) (fun x hx => ho x (List.mem_cons_of_mem _ hx)) (adE_bounds h hs (nth_size hk _) (ho o (List.mem_cons_self ..)))
theorem adT_bounds {ss ks : List ByteArray} (h1 : ∀ z ∈ ss, z.size ≤ 2000) (hk : ∀ z ∈ ks, z.size ≤ 2000) : ∀ (l : List Tx) (acc : List Ev6), (∀ t ∈ l, ∀ x ∈ t.ops, OpI x) → (∀ x ∈ acc, EvB x) → ∀ x ∈ l.foldl (addT ss ks) acc, EvB x
  | [], acc, _, h => h
  | t :: l, acc, ho, h => adT_bounds h1 hk l (addT ss ks acc t) (fun u hu => ho u (List.mem_cons_of_mem _ hu))
      (adE_bounds (adO_bounds hk (nth_size h1 _) t.ops _ (ho t (List.mem_cons_self ..)) (adE_bounds h (nth_size h1 _) (by decide) (by omega))) (nth_size h1 _) (by decide) (by omega))
theorem ev_bounds {h : Hst} (h1 : ∀ z ∈ h.ss, z.size ≤ 2000) (hk : ∀ z ∈ h.ks, z.size ≤ 2000) (ho : ∀ t ∈ h.l, ∀ x ∈ t.ops, OpI x) : ∀ x ∈ evsH h, EvB x :=
  adT_bounds h1 hk h.l [] ho (fun x hx => by cases hx)
theorem few_bounds {h : Hst} (ho : ∀ t ∈ h.l, ∀ x ∈ t.ops, OpI x) : ∀ x ∈ evsH (fewH h), EvB x := by
  refine ev_bounds (fun z hz => ?_) (fun z hz => ?_) (fun t ht x hx => ?_)
  · obtain ⟨y, -, rfl⟩ := List.mem_map.1 hz
    exact Nat.le_trans (short11_size y) (by omega)
  · obtain ⟨y, -, rfl⟩ := List.mem_map.1 hz
    exact Nat.le_trans (short11_size y) (by omega)
  · obtain ⟨u, hu, rfl⟩ := List.mem_map.1 ht
    exact ho u (List.mem_of_mem_take hu) x (List.mem_of_mem_take hx)
end Go.Proofs.YthaeomdpaadilaaGreatDoor

set_option linter.unusedVariables false
set_option linter.unusedSimpArgs false
namespace Go.Proofs.YthaeomdpaadilaaGreatDoor
open Go.RowKit
open Go.Lib hiding intOf
attribute [local go_sem ↓] Go.wp_at_zero Go.wp_at_succ

set_option maxRecDepth 10000 in
set_option maxHeartbeats 2000000 in
theorem sameLog_eq (A A' : Option Addr) (n c d : Nat) (l : List Ev6) (w : World) (B B' : Nat) (hA : Row w B A (logC l)) (hA' : Row w B' A' (logC l)) (hn : l.length = n) (hnm : n ≤ 1000000) :
    Calls Tryz.prog 11 #[.slice A n c, .slice A' n d] w fun e w' => e = .returned (.bool true) ∧ ∃ k, w.drewN k = w' := by
  have HA := Lib.hid hA
  have HA' := Lib.hid hA'
  have HN := Lib.hid hn
  clear hA hA' hn
  go_enter Tryz.func11, Tryz.ntmps11
  go_wp2_with fail
  go_loopw [5] (fun i wr => ∃ k q : Nat, i = .int .i64 k ∧ k ≤ n ∧ Hid (wr = w.drewN q)) (fun i _ => n - (intOf i).toNat)
  case atStart => exact ⟨0, 0, rfl, by omega, rfl⟩
  case round =>
    obtain ⟨k, q, rfl, hk, hw⟩ := hrel
    by_cases hlt : k < n
    · obtain ⟨x, hx⟩ : ∃ x, l[k]? = some x := ⟨_, List.getElem?_eq_getElem (by rw [HN.out]; exact hlt)⟩
      obtain ⟨b, off, rfl, -, hbw, h1⟩ := row_ev HA.out hx
      obtain ⟨b', off', rfl, -, hbw', h2⟩ := row_ev HA'.out hx
      obtain ⟨a0, a1, a2, a3, a4, a5⟩ := (show EvAt wr b (off + k * 6) x by rw [hw.out]; exact h1.only ((Only.refl [] w).drewN q) hbw (by simp))
      obtain ⟨d0, d1, d2, d3, d4, d5⟩ := (show EvAt wr b' (off' + k * 6) x by rw [hw.out]; exact h2.only ((Only.refl [] w).drewN q) hbw' (by simp))
      obtain ⟨xk, xs, xy, xvk, xvn, xln⟩ := x
      dsimp only at a0 a1 a2 a3 a4 a5 d0 d1 d2 d3 d4 d5
      have hk0 : (0 : Int) ≤ (k : Int) := Int.natCast_nonneg _
      have hk1 : (k : Int) < (n : Int) := by omega
      have hs1 : (xs.toList == xs.toList) = true := by simp
      have hs2 : (xy.toList == xy.toList) = true := by simp
      have hwk : IntKind.i64.wrap ((k : Int) + 1) = (k : Int) + 1 := IntWalk.i64_in _ (by omega)
      clear hx h1 h2
      go_wp2_with fail
      go_quiet (fail)
      go_wp2
      go_roundw
      case rel =>
        refine ⟨k + 1, q + nq, by go_num, by omega, ?_⟩
        show _ = _
        rw [hw.out, World.drewN_drewN]
      case measure => simp [intOf]; omega
    · have hkn : k = n := by omega
      subst hkn
      have hd : decide ((k : Int) < (k : Int)) = false := by simp
      go_wp2
      go_ret
      exact ⟨rfl, q, hw.out.symm⟩
end Go.Proofs.YthaeomdpaadilaaGreatDoor

set_option linter.unusedVariables false
set_option linter.unusedSimpArgs false
namespace Go.Proofs.YthaeomdpaadilaaGreatDoor
open Go.RowKit
open Go.Lib hiding intOf
attribute [local go_sem ↓] Go.wp_at_zero Go.wp_at_succ

set_option maxRecDepth 10000 in
set_option maxHeartbeats 8000000 in
theorem showEvents_walk (A0 A1 A2 : Option Addr) (c0 c1 c2 : Nat) (h : Hst) (w : World) (hg : HAt w w.heap.size A0 A1 A2 h) (hm0 : h.ss.length ≤ maxLen) (hm1 : h.ks.length ≤ maxLen) (hm2 : h.l.length ≤ maxLen)
    (hz0 : ∀ z ∈ h.ss, z.size ≤ maxLen) (hz1 : ∀ z ∈ h.ks, z.size ≤ maxLen) (hob : ∀ t ∈ h.l, ∀ x ∈ t.ops, OpI x) (hT : UTabs w) (hM : MLen w) (hV : Verbs w) :
    Calls Tryz.prog 3 #[hval A0 A1 A2 h.ss.length h.ks.length h.l.length c0 c1 c2] w fun e w' => e = .returned (.bool true) ∧ Only [] w w' := by
  unfold hval
  have HW := Lib.hid (fun w' (O : Only [] w w') => works12_any w' (hT.only O) (hM.only O) (hV.only O))
  have HF0 := Lib.hid (fun w' (O : Only [] w w') => few_first A0 A1 A2 c0 c1 c2 h w' (hg.only O (by simp)).up hm0 hm1 hm2 hz0 hz1 (hT.only O))
  have HFE := Lib.hid (few_few h)
  have hxb := few_bounds (h := h) hob
  generalize fewH h = G at *
  have HEV := Lib.hid (fun A0 A1 A2 n0 n1 n2 c0 c1 c2 B w' hg => sevents_any A0 A1 A2 n0 n1 n2 c0 c1 c2 B G w' hg)
  have HRV := Lib.hid (fun A0 A1 A2 n0 n1 n2 c0 c1 c2 B w' hg => revents_any A0 A1 A2 n0 n1 n2 c0 c1 c2 B G w' hg)
  have HPR := Lib.hid (fun A0 A1 A2 n0 n1 n2 c0 c1 c2 B w' hg (O : Only [] w w') => sprint_any A0 A1 A2 n0 n1 n2 c0 c1 c2 B G w' hg (fun _ => hxb) (hV.only O))
  have HRP := Lib.hid (fun A0 A1 A2 n0 n1 n2 c0 c1 c2 B w' hg => rsprint_any A0 A1 A2 n0 n1 n2 c0 c1 c2 B G w' hg (fun _ => hxb))
  unfold hval at HEV HRV HPR HRP
  have hlen : (if errH G = 0 then evsH G else []).length ≤ 1000000 := by
    split
    · rename_i he
      obtain ⟨h1, h2⟩ := may_len he
      have := fold_len G.ss G.ks G.l h2 []
      simp at this
      show (G.l.foldl (addT G.ss G.ks) []).length ≤ _
      omega
    · simp
  generalize (if errH G = 0 then evsH G else []) = l at *
  have HST := Lib.hid (fun A A' c d w' B B' hA hA' => sameLog_eq A A' l.length c d l w' B B' hA hA' rfl hlen)
  generalize errH G = er at *
  generalize showP G = pr at *
  obtain ⟨T, E⟩ := pr
  dsimp only at HPR HRP
  generalize h.ss.length = n0 at *
  generalize h.ks.length = n1 at *
  generalize h.l.length = n2 at *
  generalize G.ss.length = m0 at *
  generalize G.ks.length = m1 at *
  generalize G.l.length = m2 at *
  have hTT : (T.toList == T.toList) = true := by simp
  have HT := Lib.hid hT
  clear hg hm0 hm1 hm2 hz0 hz1 hob hT hM hV hxb hlen
  have HB := Lib.hid (Blk.made w 25 #[.slice A0 n0 c0, .slice A1 n1 c1, .slice A2 n2 c2])
  have HO1 := Lib.hid ((Only.refl [] w).alloc (.cells #[.slice A0 n0 c0, .slice A1 n1 c1, .slice A2 n2 c2] 25))
  go_enter Tryz.func3, Tryz.ntmps3
  go_wp2_with fail
  refine (HF0.out _ HO1.out).mono ?_
  rintro e w2 ⟨B0, B1, B2, d0, d1, d2, ⟨rfl, hI⟩, O2⟩
  have HI := Lib.hid hI
  have HB2 := Lib.hid (O2.blk HB.out (by simp))
  have HO2 := Lib.hid (HO1.out.trans O2)
  clear hI O2 HB HO1 HF0
  go_wp2_with (refine wpList_store_blk rfl 25 (.tmp 1) (.tmp 12) rfl w.heap.size 25 _ #[.slice B0 m0 d0, .slice B1 m1 d1, .slice B2 m2 d2] rfl rfl HB2.out rfl (by kernel_rfl) (by kernel_rfl) ?_; intro w3 hb3 o3; have HB3 := Lib.hid hb3; have HO3 := Lib.hid (HO2.out.step o3 (fun i hi hl => by simp at hi; omega)); have HI3 := Lib.hid (HI.out.past HB2.out o3 (HT.out.only HO3.out)); have l3 := HB3.out.lt; have y0 := HB3.out.at_ 0; have y1 := HB3.out.at_ 1; have y2 := HB3.out.at_ 2; simp at y0 y1 y2; clear hb3 o3; generalize w.heap.size = g at *; clear HI HB2 HO2)
  clear l3 y0 y1 y2
  have l3 := HB3.out.lt
  have y0 := HB3.out.at_ 0
  have y1 := HB3.out.at_ 1
  have y2 := HB3.out.at_ 2
  simp at y0 y1 y2
  go_wp2_with fail
  refine (few_in _ _ _ _ _ _ _ _ _ _ _ _ HI3.out HFE.out).mono ?_
  rintro e w4 ⟨Da0, Da1, Da2, fa0, fa1, fa2, ⟨rfl, hJ⟩, O4⟩
  have HJ := Lib.hid hJ
  have HB4 := Lib.hid (O4.blk HB3.out (by simp))
  have HO4 := Lib.hid (HO3.out.trans O4)
  have HI4 := Lib.hid (HI3.out.same O4)
  clear hJ l3 y0 y1 y2 O4 HB3 HO3 HI3
  go_wp2_with fail
  refine (HEV.out _ _ _ _ _ _ _ _ _ _ _ HJ.out).mono ?_
  rintro e w5 ⟨V, n, rfl, O5, hn, hown⟩
  have HB5 := Lib.hid (O5.blk HB4.out (by simp))
  have HO5 := Lib.hid (HO4.out.trans O5)
  have HI5 := Lib.hid (HI4.out.same O5)
  subst hn
  obtain ⟨Ax, cx, rfl, -, -, -, hrow⟩ := own_row hown
  have HRx5 := Lib.hid hrow
  clear hown hrow
  clear O5 HB4 HO4 HI4 HJ
  have l5 := HB5.out.lt
  have y0 := HB5.out.at_ 0
  have y1 := HB5.out.at_ 1
  have y2 := HB5.out.at_ 2
  simp at y0 y1 y2
  go_wp2_with fail
  refine (HRV.out _ _ _ _ _ _ _ _ _ _ _ HI5.out).mono ?_
  rintro e w6 ⟨V, n, rfl, O6, hn, hown⟩
  have HB6 := Lib.hid (O6.blk HB5.out (by simp))
  have HO6 := Lib.hid (HO5.out.trans O6)
  have HI6 := Lib.hid (HI5.out.same O6)
  subst hn
  obtain ⟨Az, cz, rfl, -, -, -, hrow⟩ := own_row hown
  have HRz6 := Lib.hid hrow
  clear hown hrow
  have HRx6 := Lib.hid (HRx5.out.only O6 (by simp))
  clear l5 y0 y1 y2 O6 HB5 HO5 HI5 HRx5
  have l6 := HB6.out.lt
  have y0 := HB6.out.at_ 0
  have y1 := HB6.out.at_ 1
  have y2 := HB6.out.at_ 2
  simp at y0 y1 y2
  go_wp2_with fail
  refine (few_in _ _ _ _ _ _ _ _ _ _ _ _ HI6.out HFE.out).mono ?_
  rintro e w7 ⟨Db0, Db1, Db2, fb0, fb1, fb2, ⟨rfl, hJ⟩, O7⟩
  have HJ := Lib.hid hJ
  have HB7 := Lib.hid (O7.blk HB6.out (by simp))
  have HO7 := Lib.hid (HO6.out.trans O7)
  have HI7 := Lib.hid (HI6.out.same O7)
  have HRx7 := Lib.hid (HRx6.out.only O7 (by simp))
  have HRz7 := Lib.hid (HRz6.out.only O7 (by simp))
  clear hJ l6 y0 y1 y2 O7 HB6 HO6 HI6 HRx6 HRz6
  go_wp2_with fail
  refine (HPR.out _ _ _ _ _ _ _ _ _ _ _ HJ.out HO7.out).mono ?_
  rintro e w8 ⟨rfl, O8⟩
  have HB8 := Lib.hid (O8.blk HB7.out (by simp))
  have HO8 := Lib.hid (HO7.out.trans O8)
  have HI8 := Lib.hid (HI7.out.same O8)
  have HRx8 := Lib.hid (HRx7.out.only O8 (by simp))
  have HRz8 := Lib.hid (HRz7.out.only O8 (by simp))
  clear O8 HB7 HO7 HI7 HJ HRx7 HRz7
  have l8 := HB8.out.lt
  have y0 := HB8.out.at_ 0
  have y1 := HB8.out.at_ 1
  have y2 := HB8.out.at_ 2
  simp at y0 y1 y2
  go_wp2_with fail
  refine (HRP.out _ _ _ _ _ _ _ _ _ _ _ HI8.out).mono ?_
  rintro e w9 ⟨rfl, O9⟩
  have HB9 := Lib.hid (O9.blk HB8.out (by simp))
  have HO9 := Lib.hid (HO8.out.trans O9)
  have HI9 := Lib.hid (HI8.out.same O9)
  have HRx9 := Lib.hid (HRx8.out.only O9 (by simp))
  have HRz9 := Lib.hid (HRz8.out.only O9 (by simp))
  clear l8 y0 y1 y2 O9 HB8 HO8 HI8 HRx8 HRz8
  go_wp2_with fail
  refine (HST.out _ _ _ _ _ _ _ HRx9.out HRz9.out).mono ?_
  rintro e w10 ⟨rfl, q10, rfl⟩
  have HO10 := Lib.hid (HO9.out.drewN q10)
  generalize w9.drewN q10 = w10 at *
  go_wp2_with fail
  refine (HW.out _ HO10.out).mono ?_
  rintro e w11 ⟨rfl, O11⟩
  have HO11 := Lib.hid (HO10.out.trans O11)
  clear O11
  go_wp2
  go_ret
  exact ⟨rfl, HO11.out⟩
end Go.Proofs.YthaeomdpaadilaaGreatDoor

set_option linter.unusedVariables false
set_option linter.unusedSimpArgs false
namespace Go.Proofs.YthaeomdpaadilaaGreatDoor
open Go.ChangeShapes Go.WideShapes Go.ChangeAt Go.RowKit

theorem handed_and_shaped {H : Type} {enc : TypeId × Value → H} {a : Assume} {C : Checked} {os : Os} {f : FuncId} {fn : Func} {s : ChangeSpec} {conds : List PathCond} {apart fresh handsOn again : Bool} {X : World → Array Value → Prop}
    (hX : ∀ (w w' : World) (args : Array Value), w.heap = w'.heap → X w args → X w' args)
    (own : ownKnob C.prog.godebug = none) (started : os.Started) (noInit : C.prog.inits.idxOf? f = none) (hfn : C.prog.funcs[f]? = some fn)
    (witness : ∃ (w : World) (tape : Tape) (i : Input), w.os = os ∧ (w.forCall tape i).Shaped C.prog ∧ i.vars = [] ∧ Input.okWide C.prog (w.forCall tape i) .any w.heap.size f i ∧
      ((s.pre enc C.prog fn conds apart (w.forCall tape i).memory i.args ∧ X (w.forCall tape i).memory i.args) ∧ sizedMet enc C.prog fn (OpenSpec.ofChange s) apart (w.forCall tape i).memory i.args) ∧ a.holds C.prog (lone (Frame.enter C.prog f i.args .normal) [] (w.forCall tape i)))
    (contract : ∀ (W : World) (base : Nat) (args : Array Value) (ds gs : List (DataW H)) (before : List MemPlace),
      (∀ (j : Nat) t v, fn.params[j]? = some t → args[j]? = some v → Value.okWide C.prog W .any base t v) →
      DataW.Whole enc C.prog fn.params.toList s.vars apart W args.toList ds gs before →
      W.ShapedOpen C.prog →
      (DataW.weightsEach C.prog (fn.params.toList ++ s.plain.varTypes C.prog) (ds ++ gs)).all (· ≤ reachBytes) = true → X W args →
      a.holds C.prog (lone (Frame.enter C.prog f args .normal) [] W) →
      Calls C.prog f args W fun e W' => ∃ v, e = .returned v ∧ s.post enc C.prog fn apart fresh handsOn again W args v W') :
    ReturnsInHanded a C os f .any (fun w args => (s.pre enc C.prog fn conds apart w args ∧ X w args) ∧ sizedMet enc C.prog fn (OpenSpec.ofChange s) apart w args) (s.post enc C.prog fn apart fresh handsOn again) := by
  refine returnsInHanded_of_calls own started noInit witness ?_
  intro w tape i _ hsh _ hok hpre hholds
  obtain ⟨_, _, _, fn', hfn', _, _, _, _, hval⟩ := hok
  have e : fn' = fn := Option.some.inj (hfn'.symm.trans hfn)
  subst e
  obtain ⟨⟨⟨ds, gs, before, hw, hc⟩, hx⟩, hz⟩ := hpre
  have hw' := DataW.Whole.of_heap (w' := w.forCall tape i) (by rfl) hw
  refine (contract (w.forCall tape i) w.heap.size i.args ds gs before hval hw' hsh (hz.weights hw) (hX _ _ _ (by rfl) hx) hholds).mono fun e W' ⟨v, he, hp⟩ => ?_
  subst he
  exact ChangeSpec.post_blind hp

theorem mlen_of_shaped {W : World} (h : W.ShapedOpen Tryz.prog) : MLen W :=
  Go.Proofs.cell_of_shapedOpen_int (zero := #[.int .i64 0]) (t := 3) h (of_decide_eq_true (by kernel_rfl)) (by kernel_rfl) rfl (by kernel_rfl) (by kernel_rfl) Tryz.underlying3

end Go.Proofs.YthaeomdpaadilaaGreatDoor

set_option linter.unusedVariables false
set_option linter.unusedSimpArgs false
namespace Go.Proofs.YthaeomdpaadilaaGreatDoor
open Go.ChangeShapes Go.WideShapes Go.ChangeAt Go.RowKit

def laidL : List (String × DataW Unit) := [("unicode/utf8.acceptRanges", Rows.laid_unicode_utf8_acceptRanges), ("deemster/event.verbs", Rows.laid_deemster_event_verbs), ("unicode/utf8.first", Rows.laid_unicode_utf8_first)]
set_option maxRecDepth 100000 in
theorem laid_accept : (Rows.laid_unicode_utf8_acceptRanges : DataW Unit) = Lib.acceptData := by rfl
set_option maxRecDepth 100000 in
theorem laid_first : Rows.laid_unicode_utf8_first = Lib.firstData := by kernel_rfl
def verbD : List (Int × List UInt8 × Bool) := [(1, [98, 101, 103, 105, 110], false), (2, [114, 101, 97, 100], true), (3, [119, 114, 105, 116, 101], true), (4, [111, 107], false), (5, [102, 97, 105, 108], false), (6, [105, 110, 102, 111], false)]
def verbW (x : Int × List UInt8 × Bool) : DataW Unit := .agg [.lit (.int .i64 x.1), .lit (.string x.2.1), .lit (.bool x.2.2)]
theorem laid_verbs : (Rows.laid_deemster_event_verbs : DataW Unit) = .agg (verbD.map verbW) := by rfl

set_option maxRecDepth 100000 in
theorem tabs_of_laid {W : World} (h : laidMetH Tryz.prog laidL W) : UTabs W := by
  rw [MakeChecks.laidMetH_plain _ _ _ (by kernel_rfl)] at h
  unfold laidL at h
  rw [laid_accept, laid_first] at h
  exact utf8Tabs_of_readsT (U8Types.of196 Tryz.laysValid) ⟨by kernel_rfl, by kernel_rfl, by kernel_rfl, by kernel_rfl, by kernel_rfl, by kernel_rfl, by kernel_rfl⟩ (Lib.laidMet.reads h (.tail _ (.tail _ (.head _)))) (Lib.laidMet.reads h (.head _))

set_option maxRecDepth 100000 in
theorem verb_reads {W : World} {fuel : Nat} {cs : List Value} {x : Int × List UInt8 × Bool} {q : List MemPlace} (h : DataW.trod (fun _ => ()) Tryz.prog W 0 (fun _ => true) false fuel 103 cs = some (verbW x, q)) :
    cs = [.int .i64 x.1, .string ⟨x.2.1.toArray⟩, .bool x.2.2] := by
  obtain ⟨y0, y1, y2, n, hx, hl, h0, h1, h2⟩ := Go.Deep.trod_struct3 Tryz.underlying103 h
  rw [show Tryz.prog.cellsOf 103 = 3 by kernel_rfl] at hl
  match cs, hl with
  | [c0, c1, c2], _ =>
    have k0 : Tryz.prog.cellsOf 3 = 1 := by kernel_rfl
    have k1 : Tryz.prog.cellsOf 9 = 1 := by kernel_rfl
    have k2 : Tryz.prog.cellsOf 4 = 1 := by kernel_rfl
    dsimp only at h0 h1 h2
    rw [k0] at h0
    rw [k1] at h1
    rw [k2] at h2
    obtain ⟨a, e0, f0, -⟩ := DataW.trod_int Tryz.underlying3 (by simpa using h0)
    obtain ⟨s, e1, f1, -⟩ := DataW.trod_string Tryz.underlying9 (by simpa using h1)
    obtain ⟨b, e2, f2⟩ := DataW.trod_bool Tryz.underlying4 (by simpa using h2)
    simp at e0 e1 e2
    subst e0 e1 e2 f0 f1 f2
    obtain ⟨x0, x1, x2⟩ := x
    simp [verbW] at hx
    obtain ⟨⟨rfl, rfl, rfl⟩, -⟩ := hx
    rfl

set_option maxRecDepth 100000 in
theorem verbs_of_laid {W : World} (h : laidMetH Tryz.prog laidL W) : Verbs W := by
  rw [MakeChecks.laidMetH_plain _ _ _ (by kernel_rfl)] at h
  unfold laidL at h
  rw [laid_verbs] at h
  obtain ⟨g, t, cs, fuel, p, hg, hty, hvar, hd⟩ := Lib.laidMet.reads h (.tail _ (.head _))
  obtain rfl := Option.some.inj ((show Tryz.prog.globalNamed "deemster/event.verbs" = some 0 by kernel_rfl).symm.trans hg)
  obtain rfl := Option.some.inj ((show (Tryz.prog.globals[0]?).map (·.type) = some 134 by kernel_rfl).symm.trans hty)
  have key : ∀ (j : Nat) (x : Int × List UInt8 × Bool), j < 6 → verbD[j]? = some x → W.cell? ⟨0, j * 3, none⟩ = some (.int .i64 x.1) ∧ W.cell? ⟨0, j * 3 + 1, none⟩ = some (.string ⟨x.2.1.toArray⟩) ∧ W.cell? ⟨0, j * 3 + 2, none⟩ = some (.bool x.2.2) := by
    intro j x hj hx
    obtain ⟨fuel', d, q, hdi, he⟩ := Lib.array_elem Tryz.underlying134 hd j hj
    rw [List.getElem?_map, hx] at hdi
    simp only [Option.map_some, Option.some.injEq] at hdi
    subst hdi
    rw [show Tryz.prog.cellsOf 103 = 3 by kernel_rfl] at he
    have hcs := verb_reads he
    have e0 := congrArg (·[0]?) hcs
    have e1 := congrArg (·[1]?) hcs
    have e2 := congrArg (·[2]?) hcs
    simp only [List.getElem?_take, List.getElem?_drop] at e0 e1 e2
    refine ⟨?_, ?_, ?_⟩
    · rw [World.var?_cell hg hvar (j * 3), ← Array.getElem?_toList]
      simpa using e0
    · rw [World.var?_cell hg hvar (j * 3 + 1), ← Array.getElem?_toList]
      simpa using e1
    · rw [World.var?_cell hg hvar (j * 3 + 2), ← Array.getElem?_toList]
      simpa using e2
  have k0 := key 0 _ (by omega) rfl
  have k1 := key 1 _ (by omega) rfl
  have k2 := key 2 _ (by omega) rfl
  have k3 := key 3 _ (by omega) rfl
  have k4 := key 4 _ (by omega) rfl
  have k5 := key 5 _ (by omega) rfl
  refine ⟨World.block_lt_of_cell? W _ k0.1, fun i u hu => ?_⟩
  have hi : i < 18 := by
    have := (List.getElem?_eq_some_iff.1 hu).1
    exact this
  have hc : i = 0 ∨ i = 1 ∨ i = 2 ∨ i = 3 ∨ i = 4 ∨ i = 5 ∨ i = 6 ∨ i = 7 ∨ i = 8 ∨ i = 9 ∨ i = 10 ∨ i = 11 ∨ i = 12 ∨ i = 13 ∨ i = 14 ∨ i = 15 ∨ i = 16 ∨ i = 17 := by omega
  rcases hc with rfl | rfl | rfl | rfl | rfl | rfl | rfl | rfl | rfl | rfl | rfl | rfl | rfl | rfl | rfl | rfl | rfl | rfl
  · obtain rfl := Option.some.inj hu
    exact k0.1
  · obtain rfl := Option.some.inj hu
    exact k0.2.1
  · obtain rfl := Option.some.inj hu
    exact k0.2.2
  · obtain rfl := Option.some.inj hu
    exact k1.1
  · obtain rfl := Option.some.inj hu
    exact k1.2.1
  · obtain rfl := Option.some.inj hu
    exact k1.2.2
  · obtain rfl := Option.some.inj hu
    exact k2.1
  · obtain rfl := Option.some.inj hu
    exact k2.2.1
  · obtain rfl := Option.some.inj hu
    exact k2.2.2
  · obtain rfl := Option.some.inj hu
    exact k3.1
  · obtain rfl := Option.some.inj hu
    exact k3.2.1
  · obtain rfl := Option.some.inj hu
    exact k3.2.2
  · obtain rfl := Option.some.inj hu
    exact k4.1
  · obtain rfl := Option.some.inj hu
    exact k4.2.1
  · obtain rfl := Option.some.inj hu
    exact k4.2.2
  · obtain rfl := Option.some.inj hu
    exact k5.1
  · obtain rfl := Option.some.inj hu
    exact k5.2.1
  · obtain rfl := Option.some.inj hu
    exact k5.2.2

end Go.Proofs.YthaeomdpaadilaaGreatDoor
