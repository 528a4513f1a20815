/- A history that came in: a struct of three slices, the third of structs that hold a slice of structs. A row's wrap that hands the walk both the laid variables and the world's shape. The table of an event's words and the tables of unicode/utf8 lie where the program's text lays them. -/
import Derived.Test.YtjhomlnlmpdklaaGreatDoorEraseStaysCardK14
import Derived.Lib.SmallJoins
import Derived.ChangeSame
import Derived.Handed
import Derived.Shelf.Vars
import Derived.HandedShaped
import Derived.Test.YtjhomlnlmpdklaaGreatDoorEraseStaysCardK9
import Derived.Test.YtjhomlnlmpdklaaGreatDoorEraseStaysCardK2
import Derived.Test.YtjhomlnlmpdklaaGreatDoorEraseStaysCardK5
import Derived.LaidMore
import Derived.Lib.LaidIn
import Derived.Lib.LaidU8T
import Derived.Stop.Joined
import Derived.JoinedOf
set_option linter.unusedVariables false
set_option linter.unusedSimpArgs false
namespace Go.Proofs.YtjhomlnlmpdklaaGreatDoor
open Go.RowKit Go.ChangeShapes Go.WideShapes Go.ChangeAt Go.Joins Go.Deep
theorem list_ofG {α : Type} {Q : Nat → α → Prop} : ∀ {N : Nat}, (∀ k, k < N → ∃ z, Q k z) → ∃ zs : List α, zs.length = N ∧ ∀ k z, zs[k]? = some z → Q k z
 | 0, _ => ⟨[], rfl, fun k z h => by simp at h⟩
 | N + 1, h => by
  obtain ⟨zs, hl, hz⟩ := list_ofG (N := N) (fun k hk => h k (by omega))
  obtain ⟨z, hq⟩ := h N (by omega)
  refine ⟨zs ++ [z], by simp [hl], fun k y hy => ?_⟩
  rcases Nat.lt_or_ge k zs.length with hk | hk
  ·rw [List.getElem?_append_left hk] at hy
   exact hz k y hy
  ·rw [List.getElem?_append_right hk] at hy
   have hk0 : k - zs.length = 0 := by
    cases hj : k - zs.length with
    | zero => rfl
    | succ j => rw [hj] at hy; simp at hy
   rw [hk0] at hy
   simp at hy
   subst hy
   have : k = N := by omega
   subst this
   exact hq
section
variable {H : Type} {enc : TypeId × Value → H} {P : Program} {w : World}
/-- A slice whose elements are of sz cells each, each element's cells f of something that is so. -/
theorem row_of {α : Type} (f : α → List Value) (sz : Nat) (hf : ∀ x, (f x).length = sz) (hsz : 0 < sz) (Q : α → Prop) {t e : TypeId} {fuel : Nat} {cs : List Value} {x : DataW H × List MemPlace} (ht : P.underlying t = some (.slice e)) (hC : P.cellsOf e = sz)
  (each : ∀ fuel' cs' x', DataW.trod enc P w 0 (fun _ => true) true fuel' e cs' = some x' → ∃ y : α, Q y ∧ cs' = f y) (h : DataW.trod enc P w 0 (fun _ => true) true fuel t cs = some x) :
  ∃ (A : Option Addr) (n c : Nat) (l : List α), cs = [.slice A n c] ∧ n ≤ c ∧ c ≤ maxLen ∧ l.length = n ∧ (∀ y ∈ l, Q y) ∧ Row w w.heap.size A (l.flatMap f) := by
 rcases open_slice ht h with ⟨hcs, _⟩ | ⟨a, len, cap, m, n, D, Pl, hcs, _, hl, hm, hmm, _, hcell⟩
 ·exact ⟨none, 0, 0, [], hcs, Nat.le_refl _, by unfold maxLen; omega, rfl, (fun z hz => by cases hz), .inl rfl⟩
 ·simp only [if_true] at hmm
  subst hmm
  have each' : ∀ k, k < len → ∃ y : α, Q y ∧ ∀ i, i < sz → w.cell? (a.add (k * sz + i)) = (f y)[i]? := by
   intro k hk
   obtain ⟨cs', hc, htr⟩ := hcell k (by omega)
   rw [hC] at hc
   obtain ⟨y, hq, hcs'⟩ := each _ _ _ htr
   obtain ⟨_, hcl, hat⟩ := World.cells?_some hc
   refine ⟨y, hq, fun i hi => ?_⟩
   have hk' : a.add (k * sz + i) = (a.add (k * sz)).add i := by rw [Go.Deep.add_add]
   rw [hk', hat i hi, hcs']
  obtain ⟨l, hll, hz⟩ := list_ofG each'
  refine ⟨some a, len, _, l, hcs, hl, hm, hll, fun z hzm => ?_, ?_⟩
  ·obtain ⟨k, hk⟩ := List.mem_iff_getElem?.1 hzm
   exact (hz k z hk).1
  ·by_cases h0 : len = 0
   ·subst h0
    have : l = [] := List.eq_nil_of_length_eq_zero hll
    subst this
    exact .inl rfl
   ·obtain ⟨x0, -, hx0⟩ := each' 0 (by omega)
    obtain ⟨u0, hu0⟩ : ∃ u, (f x0)[0]? = some u := ⟨_, List.getElem?_eq_getElem (by rw [hf]; exact hsz)⟩
    have hz0 : w.cell? (a.add 0) = some u0 := by
     have := hx0 0 hsz
     rw [hu0] at this
     simpa using this
    have hA : a.spot = none := by
     unfold World.cell? Addr.add at hz0
     cases hsp : a.spot with
     | none => rfl
     | some s =>
      rw [if_pos rfl] at hz0
      split at hz0
      ·simp [hsp] at hz0
      ·cases hz0
    obtain ⟨b, off, sp⟩ := a
    simp only at hA
    subst hA
    have hb : b < w.heap.size := World.block_lt_of_cell? w _ (by simpa [Addr.add] using hz0)
    refine .inr ⟨b, off, rfl, hb, Nat.le_refl _, fun t u hu => ?_⟩
    have hlt : t < (l.flatMap f).length := (List.getElem?_eq_some_iff.1 hu).1
    rw [flat_len f sz hf] at hlt
    have hts : t / sz < l.length := (Nat.div_lt_iff_lt_mul hsz).2 hlt
    obtain ⟨x, hx⟩ : ∃ x, l[t / sz]? = some x := ⟨_, List.getElem?_eq_getElem hts⟩
    have g := flat_get f sz hf l (t / sz) x hx (t % sz) (Nat.mod_lt _ hsz)
    have e : t / sz * sz + t % sz = t := by rw [Nat.mul_comm]; exact Nat.div_add_mod t sz
    rw [e, hu] at g
    have h1 := (hz (t / sz) x hx).2 (t % sz) (Nat.mod_lt _ hsz)
    rw [e] at h1
    have e' : (⟨b, off, none⟩ : Addr).add t = ⟨b, off + t, none⟩ := by
     unfold Addr.add
     split
     ·rename_i h; subst h; rfl
     ·rfl
    rw [e'] at h1
    rw [h1]
    exact g.symm
theorem op_cells {fuel : Nat} {t ti tb tv tj : TypeId} {f0 f1 f2 g0 g1 : Field} {cs : List Value} {x : DataW H × List MemPlace}
  (hs : P.underlying t = some (.struct #[f0, f1, f2])) (hvs : P.underlying tv = some (.struct #[g0, g1])) (hC : P.cellsOf t = 4)
  (hb : P.underlying tb = some .bool) (hi : P.underlying ti = some (.int .i64)) (hj : P.underlying tj = some (.int .i64)) (cb : P.cellsOf tb = 1) (ci : P.cellsOf ti = 1) (cj : P.cellsOf tj = 1) (cv : P.cellsOf tv = 2)
  (e0 : f0.type = tb ∧ f0.offset = 0) (e1 : f1.type = ti ∧ f1.offset = 1) (e2 : f2.type = tv ∧ f2.offset = 2) (q0 : g0.type = ti ∧ g0.offset = 0) (q1 : g1.type = tj ∧ g1.offset = 1)
  (h : DataW.trod enc P w 0 (fun _ => true) true fuel t cs = some x) : ∃ y : Op4, True ∧ cs = y.c := by
 obtain ⟨xs, n, _, rfl, hl, hlen, hf⟩ := DataW.trod_struct hs h
 rw [hC] at hl
 match cs, hl with
 | [c0, c1, c2, c3], _ =>
  have h0 := hf 0 f0 rfl
  have h1 := hf 1 f1 rfl
  have h2 := hf 2 f2 rfl
  rw [e0.1, e0.2, cb] at h0
  rw [e1.1, e1.2, ci] at h1
  rw [e2.1, e2.2, cv] at h2
  match xs, hlen with
  | [y0, y1, y2], _ =>
   obtain ⟨b, a0, -⟩ := DataW.trod_bool hb (by simpa using h0)
   obtain ⟨k, a1, -, wk⟩ := DataW.trod_int hi (by simpa using h1)
   obtain ⟨z0, z1, m, -, -, g3, g4⟩ := trod_struct2 hvs (by simpa using h2)
   rw [q0.1, q0.2, ci] at g3
   rw [q1.1, q1.2, cj] at g4
   obtain ⟨vk, a3, -, wvk⟩ := DataW.trod_int hi (by simpa using g3)
   obtain ⟨vn, a4, -, wvn⟩ := DataW.trod_int hj (by simpa using g4)
   simp at a0 a1 a3 a4
   subst a0 a1 a3 a4
   exact ⟨⟨b, k, vk, vn⟩, trivial, rfl⟩
theorem txn_cells {fuel : Nat} {t ti tl : TypeId} {f0 f1 f2 : Field} {cs : List Value} {x : DataW H × List MemPlace}
  (hs : P.underlying t = some (.struct #[f0, f1, f2])) (hC : P.cellsOf t = 3) (hi : P.underlying ti = some (.int .i64)) (ci : P.cellsOf ti = 1) (cl : P.cellsOf tl = 1)
  (e0 : f0.type = ti ∧ f0.offset = 0) (e1 : f1.type = ti ∧ f1.offset = 1) (e2 : f2.type = tl ∧ f2.offset = 2)
  (ops : ∀ fuel' cs' x', DataW.trod enc P w 0 (fun _ => true) true fuel' tl cs' = some x' → ∃ (A : Option Addr) (n c : Nat) (l : List Op4), cs' = [.slice A n c] ∧ n ≤ c ∧ c ≤ maxLen ∧ l.length = n ∧ (∀ y ∈ l, True) ∧ Row w w.heap.size A (l.flatMap Op4.c))
  (h : DataW.trod enc P w 0 (fun _ => true) true fuel t cs = some x) : ∃ y : TxA, TxOk w w.heap.size y ∧ cs = y.c := by
 obtain ⟨xs, n, _, rfl, hl, hlen, hf⟩ := DataW.trod_struct hs h
 rw [hC] at hl
 match cs, hl with
 | [c0, c1, c2], _ =>
  have h0 := hf 0 f0 rfl
  have h1 := hf 1 f1 rfl
  have h2 := hf 2 f2 rfl
  rw [e0.1, e0.2, ci] at h0
  rw [e1.1, e1.2, ci] at h1
  rw [e2.1, e2.2, cl] at h2
  match xs, hlen with
  | [y0, y1, y2], _ =>
   obtain ⟨s, a0, -, -⟩ := DataW.trod_int hi (by simpa using h0)
   obtain ⟨f, a1, -, -⟩ := DataW.trod_int hi (by simpa using h1)
   obtain ⟨A, m, c, l, a2, hle, hcm, hll, -, hR⟩ := ops _ _ _ (by simpa using h2)
   simp at a0 a1 a2
   subst a0 a1 a2 hll
   exact ⟨⟨⟨s, f, l⟩, A, c⟩, ⟨hR, hle, hcm⟩, rfl⟩
/-- A history that came in by value. -/
theorem open_hist {r : Reach} {b0 : Nat} {t ts te tt tx ti tl tq tb tv tj : TypeId} {f0 f1 f2 x0 x1 x2 o0 o1 o2 g0 g1 : Field} {v : Value} {d : DataW H} {p : List MemPlace}
  (hs : P.underlying t = some (.struct #[f0, f1, f2])) (hC : P.cellsOf t = 3) (hts : P.underlying ts = some (.slice te)) (hte : P.underlying te = some .string) (cte : P.cellsOf te = 1) (cts : P.cellsOf ts = 1)
  (htt : P.underlying tt = some (.slice tx)) (ctt : P.cellsOf tt = 1) (hx : P.underlying tx = some (.struct #[x0, x1, x2])) (hCx : P.cellsOf tx = 3) (hi : P.underlying ti = some (.int .i64)) (ci : P.cellsOf ti = 1)
  (htl : P.underlying tl = some (.slice tq)) (ctl : P.cellsOf tl = 1) (hos : P.underlying tq = some (.struct #[o0, o1, o2])) (hvs : P.underlying tv = some (.struct #[g0, g1])) (hCo : P.cellsOf tq = 4)
  (hb : P.underlying tb = some .bool) (hj : P.underlying tj = some (.int .i64)) (cb : P.cellsOf tb = 1) (cj : P.cellsOf tj = 1) (cv : P.cellsOf tv = 2)
  (e0 : f0.type = ts ∧ f0.offset = 0) (e1 : f1.type = ts ∧ f1.offset = 1) (e2 : f2.type = tt ∧ f2.offset = 2)
  (k0 : x0.type = ti ∧ x0.offset = 0) (k1 : x1.type = ti ∧ x1.offset = 1) (k2 : x2.type = tl ∧ x2.offset = 2)
  (m0 : o0.type = tb ∧ o0.offset = 0) (m1 : o1.type = ti ∧ o1.offset = 1) (m2 : o2.type = tv ∧ o2.offset = 2) (q0 : g0.type = ti ∧ g0.offset = 0) (q1 : g1.type = tj ∧ g1.offset = 1)
  (hv : Value.okWide P w r b0 t v) (h : DataW.Trod enc P w 0 (fun _ => true) true t v d p) :
  ∃ (A0 A1 A2 : Option Addr) (c0 c1 c2 : Nat) (g : Hst), v = hval A0 A1 A2 g.ss.length g.ks.length g.l.length c0 c1 c2 ∧ HAt w w.heap.size A0 A1 A2 g ∧ g.ss.length ≤ maxLen ∧ g.ks.length ≤ maxLen ∧ g.l.length ≤ maxLen ∧ (∀ z ∈ g.ss, z.size ≤ maxLen) ∧ (∀ z ∈ g.ks, z.size ≤ maxLen) := by
 obtain ⟨cs, rfl, hsz⟩ := okWide_struct hs hv
 obtain ⟨fuel, hf0⟩ := h
 have strs1 : ∀ fuel' cs' x', DataW.trod enc P w 0 (fun _ => true) true fuel' te cs' = some x' → ∃ y : ByteArray, y.size ≤ maxLen ∧ cs' = [.string y] := fun fuel' cs' x' h => by
  obtain ⟨s, a, -, ws⟩ := DataW.trod_string hte h
  exact ⟨s, ws, a⟩
 have ops1 := fun fuel' cs' x' (h : DataW.trod enc P w 0 (fun _ => true) true fuel' tl cs' = some x') => row_of Op4.c 4 (fun _ => rfl) (by omega) (fun _ => True) htl hCo (fun _ _ _ h => op_cells hos hvs hCo hb hi hj cb ci cj cv m0 m1 m2 q0 q1 h) h
 obtain ⟨xs, n, _, hxx, hl, hlen, hf⟩ := DataW.trod_struct hs hf0
 rw [hC] at hl
 have hcells : (Value.agg cs).cells.toList = cs.toList := by simp [Value.cells]
 rw [hcells] at hl hf
 match hcs : cs.toList, hl with
 | [c0, c1, c2], _ =>
  rw [hcs] at hf
  have h0 := hf 0 f0 rfl
  have h1 := hf 1 f1 rfl
  have h2 := hf 2 f2 rfl
  rw [e0.1, e0.2, cts] at h0
  rw [e1.1, e1.2, cts] at h1
  rw [e2.1, e2.2, ctt] at h2
  match xs, hlen with
  | [y0, y1, y2], _ =>
   obtain ⟨A0, n0, d0, z0, a0, l0, m0', hn0, hz0, r0⟩ := row_of (fun s : ByteArray => [Value.string s]) 1 (fun _ => rfl) (by omega) (fun s => s.size ≤ maxLen) hts cte strs1 (by simpa using h0)
   obtain ⟨A1, n1, d1, z1, a1, l1, m1', hn1, hz1, r1⟩ := row_of (fun s : ByteArray => [Value.string s]) 1 (fun _ => rfl) (by omega) (fun s => s.size ≤ maxLen) hts cte strs1 (by simpa using h1)
   obtain ⟨A2, n2, d2, z2, a2, l2, m2', hn2, hz2, r2⟩ := row_of TxA.c 3 (fun _ => rfl) (by omega) (TxOk w w.heap.size) htt hCx (fun _ _ _ h => txn_cells hx hCx hi ci ctl k0 k1 k2 ops1 h) (by simpa using h2)
   simp at a0 a1 a2
   subst a0 a1 a2
   have fs : ∀ l : List ByteArray, l.flatMap (fun s => [Value.string s]) = strs l := fun l => by
    induction l with
    | nil => rfl
    | cons x l ih => rw [List.flatMap_cons, ih]; rfl
   rw [fs] at r0 r1
   refine ⟨A0, A1, A2, d0, d1, d2, ⟨z0, z1, z2.map TxA.t⟩, ?_, ⟨r0, r1, z2, rfl, r2, hz2⟩, by rw [hn0]; exact Nat.le_trans l0 m0', by rw [hn1]; exact Nat.le_trans l1 m1', by rw [List.length_map, hn2]; exact Nat.le_trans l2 m2', hz0, hz1⟩
   have e : cs = #[.slice A0 n0 d0, .slice A1 n1 d1, .slice A2 n2 d2] := by
    apply Array.toList_inj.1
    rw [hcs]
   unfold hval
   dsimp only
   rw [e, hn0, hn1, List.length_map, hn2]
end
end Go.Proofs.YtjhomlnlmpdklaaGreatDoor

set_option linter.unusedVariables false
set_option linter.unusedSimpArgs false
namespace Go.Proofs.YtjhomlnlmpdklaaGreatDoor
open Go.ChangeShapes Go.WideShapes Go.ChangeAt Go.RowKit
theorem handed_and_shaped {H : Type} {enc : TypeId × Value → H} {a : Assume} {C : Checked} {os : Os} {f : FuncId} {fn : Func} {s : ChangeSpec} {conds : List PathCond} {apart fresh handsOn again : Bool} {X : World → Array Value → Prop}
  (hX : ∀ (w w' : World) (args : Array Value), w.heap = w'.heap → X w args → X w' args)
  (own : ownKnob C.prog.godebug = none) (started : os.Started) (noInit : C.prog.inits.idxOf? f = none) (hfn : C.prog.funcs[f]? = some fn)
  (witness : ∃ (w : World) (tape : Tape) (i : Input), w.os = os ∧ (w.forCall tape i).Shaped C.prog ∧ i.vars = [] ∧ Input.okWide C.prog (w.forCall tape i) .any w.heap.size f i ∧
   ((s.pre enc C.prog fn conds apart (w.forCall tape i).memory i.args ∧ X (w.forCall tape i).memory i.args) ∧ sizedMet enc C.prog fn (OpenSpec.ofChange s) apart (w.forCall tape i).memory i.args) ∧ a.holds C.prog (lone (Frame.enter C.prog f i.args .normal) [] (w.forCall tape i)))
  (contract : ∀ (W : World) (base : Nat) (args : Array Value) (ds gs : List (DataW H)) (before : List MemPlace),
   (∀ (j : Nat) t v, fn.params[j]? = some t → args[j]? = some v → Value.okWide C.prog W .any base t v) →
   DataW.Whole enc C.prog fn.params.toList s.vars apart W args.toList ds gs before →
   W.ShapedOpen C.prog →
   (DataW.weightsEach C.prog (fn.params.toList ++ s.plain.varTypes C.prog) (ds ++ gs)).all (· ≤ reachBytes) = true → X W args →
   a.holds C.prog (lone (Frame.enter C.prog f args .normal) [] W) →
   Calls C.prog f args W fun e W' => ∃ v, e = .returned v ∧ s.post enc C.prog fn apart fresh handsOn again W args v W') :
  ReturnsInHanded a C os f .any (fun w args => (s.pre enc C.prog fn conds apart w args ∧ X w args) ∧ sizedMet enc C.prog fn (OpenSpec.ofChange s) apart w args) (s.post enc C.prog fn apart fresh handsOn again) := by
 refine returnsInHanded_of_calls own started noInit witness ?_
 intro w tape i _ hsh _ hok hpre hholds
 obtain ⟨_, _, _, fn', hfn', _, _, _, _, hval⟩ := hok
 have e : fn' = fn := Option.some.inj (hfn'.symm.trans hfn)
 subst e
 obtain ⟨⟨⟨ds, gs, before, hw, hc⟩, hx⟩, hz⟩ := hpre
 have hw' := DataW.Whole.of_heap (w' := w.forCall tape i) (by rfl) hw
 refine (contract (w.forCall tape i) w.heap.size i.args ds gs before hval hw' hsh (hz.weights hw) (hX _ _ _ (by rfl) hx) hholds).mono fun e W' ⟨v, he, hp⟩ => ?_
 subst he
 exact ChangeSpec.post_blind hp
theorem mlen_of_shaped {W : World} (h : W.ShapedOpen Tryz.prog) : MLen W :=
 Go.Proofs.cell_of_shapedOpen_int (zero := #[.int .i64 0]) (t := 3) h (of_decide_eq_true (by kernel_rfl)) (by kernel_rfl) rfl (by kernel_rfl) (by kernel_rfl) Tryz.underlying3
end Go.Proofs.YtjhomlnlmpdklaaGreatDoor

set_option linter.unusedVariables false
set_option linter.unusedSimpArgs false
namespace Go.Proofs.YtjhomlnlmpdklaaGreatDoor
open Go.ChangeShapes Go.WideShapes Go.ChangeAt Go.RowKit
def laidL : List (String × DataW Unit) := [("unicode/utf8.acceptRanges", Rows.laid_unicode_utf8_acceptRanges), ("deemster/event.verbs", Rows.laid_deemster_event_verbs), ("unicode/utf8.first", Rows.laid_unicode_utf8_first)]
set_option maxRecDepth 100000 in
theorem laid_accept : (Rows.laid_unicode_utf8_acceptRanges : DataW Unit) = Lib.acceptData := by rfl
set_option maxRecDepth 100000 in
theorem laid_first : Rows.laid_unicode_utf8_first = Lib.firstData := by kernel_rfl
def verbD : List (Int × List UInt8 × Bool) := [(1, [98, 101, 103, 105, 110], false), (2, [114, 101, 97, 100], true), (3, [119, 114, 105, 116, 101], true), (4, [111, 107], false), (5, [102, 97, 105, 108], false), (6, [105, 110, 102, 111], false)]
def verbW (x : Int × List UInt8 × Bool) : DataW Unit := .agg [.lit (.int .i64 x.1), .lit (.string x.2.1), .lit (.bool x.2.2)]
theorem laid_verbs : (Rows.laid_deemster_event_verbs : DataW Unit) = .agg (verbD.map verbW) := by rfl
set_option maxRecDepth 100000 in
theorem tabs_of_laid {W : World} (h : laidMetH Tryz.prog laidL W) : UTabs W := by
 rw [MakeChecks.laidMetH_plain _ _ _ (by kernel_rfl)] at h
 unfold laidL at h
 rw [laid_accept, laid_first] at h
 exact utf8Tabs_of_readsT (U8Types.of196 Tryz.laysValid) ⟨by kernel_rfl, by kernel_rfl, by kernel_rfl, by kernel_rfl, by kernel_rfl, by kernel_rfl, by kernel_rfl⟩ (Lib.laidMet.reads h (.tail _ (.tail _ (.head _)))) (Lib.laidMet.reads h (.head _))
set_option maxRecDepth 100000 in
theorem verb_reads {W : World} {fuel : Nat} {cs : List Value} {x : Int × List UInt8 × Bool} {q : List MemPlace} (h : DataW.trod (fun _ => ()) Tryz.prog W 0 (fun _ => true) false fuel 114 cs = some (verbW x, q)) :
  cs = [.int .i64 x.1, .string ⟨x.2.1.toArray⟩, .bool x.2.2] := by
 obtain ⟨y0, y1, y2, n, hx, hl, h0, h1, h2⟩ := Go.Deep.trod_struct3 Tryz.underlying114 h
 rw [show Tryz.prog.cellsOf 114 = 3 by kernel_rfl] at hl
 match cs, hl with
 | [c0, c1, c2], _ =>
  have k0 : Tryz.prog.cellsOf 3 = 1 := by kernel_rfl
  have k1 : Tryz.prog.cellsOf 9 = 1 := by kernel_rfl
  have k2 : Tryz.prog.cellsOf 4 = 1 := by kernel_rfl
  dsimp only at h0 h1 h2
  rw [k0] at h0
  rw [k1] at h1
  rw [k2] at h2
  obtain ⟨a, e0, f0, -⟩ := DataW.trod_int Tryz.underlying3 (by simpa using h0)
  obtain ⟨s, e1, f1, -⟩ := DataW.trod_string Tryz.underlying9 (by simpa using h1)
  obtain ⟨b, e2, f2⟩ := DataW.trod_bool Tryz.underlying4 (by simpa using h2)
  simp at e0 e1 e2
  subst e0 e1 e2 f0 f1 f2
  obtain ⟨x0, x1, x2⟩ := x
  simp [verbW] at hx
  obtain ⟨⟨rfl, rfl, rfl⟩, -⟩ := hx
  rfl
set_option maxRecDepth 100000 in
theorem verbs_of_laid {W : World} (h : laidMetH Tryz.prog laidL W) : Verbs W := by
 rw [MakeChecks.laidMetH_plain _ _ _ (by kernel_rfl)] at h
 unfold laidL at h
 rw [laid_verbs] at h
 obtain ⟨g, t, cs, fuel, p, hg, hty, hvar, hd⟩ := Lib.laidMet.reads h (.tail _ (.head _))
 obtain rfl := Option.some.inj ((show Tryz.prog.globalNamed "deemster/event.verbs" = some 2 by kernel_rfl).symm.trans hg)
 obtain rfl := Option.some.inj ((show (Tryz.prog.globals[2]?).map (·.type) = some 147 by kernel_rfl).symm.trans hty)
 have key : ∀ (j : Nat) (x : Int × List UInt8 × Bool), j < 6 → verbD[j]? = some x → W.cell? ⟨2, j * 3, none⟩ = some (.int .i64 x.1) ∧ W.cell? ⟨2, j * 3 + 1, none⟩ = some (.string ⟨x.2.1.toArray⟩) ∧ W.cell? ⟨2, j * 3 + 2, none⟩ = some (.bool x.2.2) := by
  intro j x hj hx
  obtain ⟨fuel', d, q, hdi, he⟩ := Lib.array_elem Tryz.underlying147 hd j hj
  rw [List.getElem?_map, hx] at hdi
  simp only [Option.map_some, Option.some.injEq] at hdi
  subst hdi
  rw [show Tryz.prog.cellsOf 114 = 3 by kernel_rfl] at he
  have hcs := verb_reads he
  have e0 := congrArg (·[0]?) hcs
  have e1 := congrArg (·[1]?) hcs
  have e2 := congrArg (·[2]?) hcs
  simp only [List.getElem?_take, List.getElem?_drop] at e0 e1 e2
  refine ⟨?_, ?_, ?_⟩
  ·rw [World.var?_cell hg hvar (j * 3), ← Array.getElem?_toList]
   simpa using e0
  ·rw [World.var?_cell hg hvar (j * 3 + 1), ← Array.getElem?_toList]
   simpa using e1
  ·rw [World.var?_cell hg hvar (j * 3 + 2), ← Array.getElem?_toList]
   simpa using e2
 have k0 := key 0 _ (by omega) rfl
 have k1 := key 1 _ (by omega) rfl
 have k2 := key 2 _ (by omega) rfl
 have k3 := key 3 _ (by omega) rfl
 have k4 := key 4 _ (by omega) rfl
 have k5 := key 5 _ (by omega) rfl
 refine ⟨World.block_lt_of_cell? W _ k0.1, fun i u hu => ?_⟩
 have hi : i < 18 := by
  have := (List.getElem?_eq_some_iff.1 hu).1
  exact this
 have hc : i = 0 ∨ i = 1 ∨ i = 2 ∨ i = 3 ∨ i = 4 ∨ i = 5 ∨ i = 6 ∨ i = 7 ∨ i = 8 ∨ i = 9 ∨ i = 10 ∨ i = 11 ∨ i = 12 ∨ i = 13 ∨ i = 14 ∨ i = 15 ∨ i = 16 ∨ i = 17 := by omega
 rcases hc with rfl | rfl | rfl | rfl | rfl | rfl | rfl | rfl | rfl | rfl | rfl | rfl | rfl | rfl | rfl | rfl | rfl | rfl
 ·obtain rfl := Option.some.inj hu
  exact k0.1
 ·obtain rfl := Option.some.inj hu
  exact k0.2.1
 ·obtain rfl := Option.some.inj hu
  exact k0.2.2
 ·obtain rfl := Option.some.inj hu
  exact k1.1
 ·obtain rfl := Option.some.inj hu
  exact k1.2.1
 ·obtain rfl := Option.some.inj hu
  exact k1.2.2
 ·obtain rfl := Option.some.inj hu
  exact k2.1
 ·obtain rfl := Option.some.inj hu
  exact k2.2.1
 ·obtain rfl := Option.some.inj hu
  exact k2.2.2
 ·obtain rfl := Option.some.inj hu
  exact k3.1
 ·obtain rfl := Option.some.inj hu
  exact k3.2.1
 ·obtain rfl := Option.some.inj hu
  exact k3.2.2
 ·obtain rfl := Option.some.inj hu
  exact k4.1
 ·obtain rfl := Option.some.inj hu
  exact k4.2.1
 ·obtain rfl := Option.some.inj hu
  exact k4.2.2
 ·obtain rfl := Option.some.inj hu
  exact k5.1
 ·obtain rfl := Option.some.inj hu
  exact k5.2.1
 ·obtain rfl := Option.some.inj hu
  exact k5.2.2
end Go.Proofs.YtjhomlnlmpdklaaGreatDoor
