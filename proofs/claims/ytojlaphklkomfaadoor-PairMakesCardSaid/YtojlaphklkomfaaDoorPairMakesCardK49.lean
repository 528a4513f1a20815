/- Parts. -/
import Derived.Lib.SmallJoins
import Derived.ChangeSame
import Derived.Test.YtojlaphklkomfaaDoorPairMakesCardK9
import Derived.LaidMore
import Derived.Lib.LaidIn
import Derived.Lib.LaidU8T
import Derived.Stop.Joined
import Derived.JoinedOf
set_option maxRecDepth 10000
set_option maxHeartbeats 16000000
set_option linter.unusedVariables false
set_option linter.unusedSimpArgs false
namespace Go.Proofs.YtojlaphklkomfaaDoor
open Go.RowKit Go.ChangeShapes Go.WideShapes Go.ChangeAt Go.Joins Go.Deep
section
variable {H : Type} {enc : TypeId × Value → H} {P : Program} {w : World}
theorem event_cells {fuel : Nat} {t ti ts tv tj : TypeId} {f0 f1 f2 f3 f4 g0 g1 : Field} {cs : List Value} {x : DataW H × List MemPlace}
  (hs : P.underlying t = some (.struct #[f0, f1, f2, f3, f4])) (hvs : P.underlying tv = some (.struct #[g0, g1])) (hC : P.cellsOf t = 6)
  (hi : P.underlying ti = some (.int .i64)) (hj : P.underlying tj = some (.int .i64)) (hst : P.underlying ts = some .string) (ci : P.cellsOf ti = 1) (cj : P.cellsOf tj = 1) (cst : P.cellsOf ts = 1) (cv : P.cellsOf tv = 2)
  (e0 : f0.type = ti ∧ f0.offset = 0) (e1 : f1.type = ts ∧ f1.offset = 1) (e2 : f2.type = ts ∧ f2.offset = 2) (e3 : f3.type = tv ∧ f3.offset = 3) (e4 : f4.type = ti ∧ f4.offset = 5)
  (q0 : g0.type = ti ∧ g0.offset = 0) (q1 : g1.type = tj ∧ g1.offset = 1) (h : DataW.trod enc P w 0 (fun _ => true) true fuel t cs = some x) :
  ∃ (k : Int) (s y : ByteArray) (vk vn ln : Int), cs = [.int .i64 k, .string s, .string y, .int .i64 vk, .int .i64 vn, .int .i64 ln] ∧ s.size ≤ maxLen ∧ y.size ≤ maxLen ∧ (Lit.int .i64 vn).wf = true ∧
   (Lit.int .i64 k).wf = true ∧ (Lit.int .i64 vk).wf = true ∧ (Lit.int .i64 ln).wf = true := by
 obtain ⟨xs, n, _, rfl, hl, hlen, hf⟩ := DataW.trod_struct hs h;rw [hC] at hl
 match cs, hl with
 | [c0, c1, c2, c3, c4, c5], _ =>
  have h0 := hf 0 f0 rfl;have h1 := hf 1 f1 rfl;have h2 := hf 2 f2 rfl;have h3 := hf 3 f3 rfl;have h4 := hf 4 f4 rfl;rw [e0.1, e0.2, ci] at h0;rw [e1.1, e1.2, cst] at h1;rw [e2.1, e2.2, cst] at h2;rw [e3.1, e3.2, cv] at h3;rw [e4.1, e4.2, ci] at h4
  match xs, hlen with
  | [y0, y1, y2, y3, y4], _ =>
   obtain ⟨k, a0, -, wk⟩ := DataW.trod_int hi (by simpa using h0);obtain ⟨s, a1, -, ws⟩ := DataW.trod_string hst (by simpa using h1);obtain ⟨y, a2, -, wy⟩ := DataW.trod_string hst (by simpa using h2);obtain ⟨z0, z1, m, -, -, g3, g4⟩ := trod_struct2 hvs (by simpa using h3);rw [q0.1, q0.2, ci] at g3;rw [q1.1, q1.2, cj] at g4;obtain ⟨vk, a3, -, wvk⟩ := DataW.trod_int hi (by simpa using g3);obtain ⟨vn, a4, -, wvn⟩ := DataW.trod_int hj (by simpa using g4);obtain ⟨ln, a5, -, wl⟩ := DataW.trod_int hi (by simpa using h4);simp at a0 a1 a2 a3 a4 a5;subst a0 a1 a2 a3 a4 a5;exact ⟨k, s, y, vk, vn, ln, rfl, ws, wy, wvn, wk, wvk, wl⟩
end
theorem list_ofE {Q : Nat → Ev6 → Prop} : ∀ {N : Nat}, (∀ k, k < N → ∃ z, Q k z) → ∃ zs : List Ev6, zs.length = N ∧ ∀ k z, zs[k]? = some z → Q k z
 | 0, _ => ⟨[], rfl, fun k z h => by simp at h⟩
 | N + 1, h => by
  obtain ⟨zs, hl, hz⟩ := list_ofE (N := N) (fun k hk => h k (by omega));obtain ⟨z, hq⟩ := h N (by omega);refine ⟨zs ++ [z], by simp [hl], fun k y hy => ?_⟩;rcases Nat.lt_or_ge k zs.length with hk | hk
  ·rw [List.getElem?_append_left hk] at hy;exact hz k y hy
  ·rw [List.getElem?_append_right hk] at hy;have hk0 : k - zs.length = 0 := by
    cases hj : k - zs.length with
    | zero => rfl
    | succ j => rw [hj] at hy; simp at hy
   rw [hk0] at hy;simp at hy;subst hy;have : k = N := by omega
   subst this;exact hq
section
variable {H : Type} {enc : TypeId × Value → H} {P : Program} {w : World}
theorem open_row_events {r : Reach} {b0 : Nat} {tt t ti ts tv tj : TypeId} {f0 f1 f2 f3 f4 g0 g1 : Field} {v : Value} {d : DataW H} {ps : List MemPlace} (ht : P.underlying tt = some (.slice t))
  (hs : P.underlying t = some (.struct #[f0, f1, f2, f3, f4])) (hvs : P.underlying tv = some (.struct #[g0, g1])) (hC : P.cellsOf t = 6)
  (hi : P.underlying ti = some (.int .i64)) (hj : P.underlying tj = some (.int .i64)) (hst : P.underlying ts = some .string) (ci : P.cellsOf ti = 1) (cj : P.cellsOf tj = 1) (cst : P.cellsOf ts = 1) (cv : P.cellsOf tv = 2)
  (e0 : f0.type = ti ∧ f0.offset = 0) (e1 : f1.type = ts ∧ f1.offset = 1) (e2 : f2.type = ts ∧ f2.offset = 2) (e3 : f3.type = tv ∧ f3.offset = 3) (e4 : f4.type = ti ∧ f4.offset = 5)
  (q0 : g0.type = ti ∧ g0.offset = 0) (q1 : g1.type = tj ∧ g1.offset = 1) (hv : Value.okWide P w r b0 tt v) (h : DataW.Trod enc P w 0 (fun _ => true) true tt v d ps) :
  ∃ (A : Option Addr) (n c : Nat) (l : List Ev6), v = .slice A n c ∧ n ≤ c ∧ c ≤ maxLen ∧ l.length = n ∧ (∀ x ∈ l, x.s.size ≤ maxLen ∧ x.y.size ≤ maxLen ∧ -9223372036854775808 ≤ x.vn ∧ x.vn ≤ 9223372036854775807) ∧ Row w w.heap.size A (logC l) := by
 obtain ⟨a0, len, cap, rfl⟩ := okWide_slice ht hv;obtain ⟨fuel, hf⟩ := h;rcases open_slice ht hf with ⟨hcs, _⟩ | ⟨a, len', cap', m, n, D, Pl, hcs, _, hl, hm, hmm, _, hcell⟩
 ·simp [Value.cells] at hcs;obtain ⟨rfl, rfl, rfl⟩ := hcs;exact ⟨none, 0, 0, [], rfl, Nat.le_refl _, by unfold maxLen; omega, rfl, (fun z hz => by cases hz), .inl rfl⟩
 ·simp [Value.cells] at hcs;obtain ⟨rfl, rfl, rfl⟩ := hcs;simp only [if_true] at hmm;subst hmm;have each : ∀ k, k < len → ∃ x : Ev6, (x.s.size ≤ maxLen ∧ x.y.size ≤ maxLen ∧ -9223372036854775808 ≤ x.vn ∧ x.vn ≤ 9223372036854775807) ∧ ∀ i, i < 6 → w.cell? (a.add (k * 6 + i)) = x.c[i]? := by
   intro k hk;obtain ⟨cs', hc, htr⟩ := hcell k (by omega);rw [hC] at hc;obtain ⟨xk, xs, xy, xvk, xvn, xln, hcs', w1, w2, w3, -⟩ := event_cells hs hvs hC hi hj hst ci cj cst cv e0 e1 e2 e3 e4 q0 q1 htr;obtain ⟨_, hcl, hat⟩ := World.cells?_some hc;refine ⟨⟨xk, xs, xy, xvk, xvn, xln⟩, ⟨w1, w2, bd_i64 w3⟩, fun i hi6 => ?_⟩;have hk' : a.add (k * 6 + i) = (a.add (k * 6)).add i := by rw [Go.Deep.add_add]
   rw [hk', hat i hi6, hcs']
   rfl
  obtain ⟨l, hll, hz⟩ := list_ofE each;refine ⟨some a, len, _, l, rfl, hl, hm, hll, fun z hzm => ?_, ?_⟩
  ·obtain ⟨k, hk⟩ := List.mem_iff_getElem?.1 hzm;exact (hz k z hk).1
  ·by_cases h0 : len = 0
   ·subst h0;have : l = [] := List.eq_nil_of_length_eq_zero hll;subst this;exact .inl rfl
   ·obtain ⟨x0, -, hx0⟩ := each 0 (by omega);have hz0 : w.cell? (a.add 0) = some (.int .i64 x0.k) := hx0 0 (by omega);have hA : a.spot = none := by
     unfold World.cell? Addr.add at hz0
     cases hsp : a.spot with
     | none => rfl
     | some s =>
      rw [if_pos rfl] at hz0
      split at hz0
      ·simp [hsp] at hz0
      ·cases hz0
    obtain ⟨b, off, sp⟩ := a;simp only at hA;subst hA;have hb : b < w.heap.size := World.block_lt_of_cell? w _ (by simpa [Addr.add] using hz0);refine .inr ⟨b, off, rfl, hb, Nat.le_refl _, fun t u hu => ?_⟩;have hlt : t < (logC l).length := (List.getElem?_eq_some_iff.1 hu).1;rw [logC_len] at hlt;obtain ⟨x, hx⟩ : ∃ x, l[t / 6]? = some x := ⟨_, List.getElem?_eq_getElem (by omega)⟩;have g := logC_get l (t / 6) x hx (t % 6) (by omega);have e : t / 6 * 6 + t % 6 = t := by omega
    rw [e, hu] at g;have h1 := (hz (t / 6) x hx).2 (t % 6) (by omega);rw [e] at h1;have e' : (⟨b, off, none⟩ : Addr).add t = ⟨b, off + t, none⟩ := by
     unfold Addr.add
     split
     ·rename_i h; subst h; rfl
     ·rfl
    rw [e'] at h1;rw [h1];exact g.symm
end
end Go.Proofs.YtojlaphklkomfaaDoor
namespace Go.Proofs.YtojlaphklkomfaaDoor
open Go.ChangeShapes Go.WideShapes Go.ChangeAt Go.RowKit
def laidL : List (String × DataW Unit) := [("unicode/utf8.acceptRanges", Rows.laid_unicode_utf8_acceptRanges), ("deemster/event.verbs", Rows.laid_deemster_event_verbs), ("unicode/utf8.first", Rows.laid_unicode_utf8_first)]
set_option maxRecDepth 100000 in
theorem laid_accept : (Rows.laid_unicode_utf8_acceptRanges : DataW Unit) = Lib.acceptData := by rfl
set_option maxRecDepth 100000 in
theorem laid_first : Rows.laid_unicode_utf8_first = Lib.firstData := by kernel_rfl
def verbD : List (Int × List UInt8 × Bool) := [(1, [98, 101, 103, 105, 110], false), (2, [114, 101, 97, 100], true), (3, [119, 114, 105, 116, 101], true), (4, [111, 107], false), (5, [102, 97, 105, 108], false), (6, [105, 110, 102, 111], false)]
def verbW (x : Int × List UInt8 × Bool) : DataW Unit := .agg [.lit (.int .i64 x.1), .lit (.string x.2.1), .lit (.bool x.2.2)]
theorem laid_verbs : (Rows.laid_deemster_event_verbs : DataW Unit) = .agg (verbD.map verbW) := by rfl
set_option maxRecDepth 100000 in
theorem tabs_of_laid {W : World} (h : laidMetH Tryd.prog laidL W) : UTabs W := by
 rw [MakeChecks.laidMetH_plain _ _ _ (by kernel_rfl)] at h;unfold laidL at h;rw [laid_accept, laid_first] at h;exact utf8Tabs_of_readsT (U8Types.of196 Tryd.laysValid) ⟨by kernel_rfl, by kernel_rfl, by kernel_rfl, by kernel_rfl, by kernel_rfl, by kernel_rfl, by kernel_rfl⟩ (Lib.laidMet.reads h (.tail _ (.tail _ (.head _)))) (Lib.laidMet.reads h (.head _))
set_option maxRecDepth 100000 in
theorem verb_reads {W : World} {fuel : Nat} {cs : List Value} {x : Int × List UInt8 × Bool} {q : List MemPlace} (h : DataW.trod (fun _ => ()) Tryd.prog W 0 (fun _ => true) false fuel 85 cs = some (verbW x, q)) :
  cs = [.int .i64 x.1, .string ⟨x.2.1.toArray⟩, .bool x.2.2] := by
 obtain ⟨y0, y1, y2, n, hx, hl, h0, h1, h2⟩ := Go.Deep.trod_struct3 Tryd.underlying85 h;rw [show Tryd.prog.cellsOf 85 = 3 by kernel_rfl] at hl
 match cs, hl with
 | [c0, c1, c2], _ =>
  have k0 : Tryd.prog.cellsOf 3 = 1 := by kernel_rfl
  have k1 : Tryd.prog.cellsOf 9 = 1 := by kernel_rfl
  have k2 : Tryd.prog.cellsOf 4 = 1 := by kernel_rfl
  dsimp only at h0 h1 h2;rw [k0] at h0;rw [k1] at h1;rw [k2] at h2;obtain ⟨a, e0, f0, -⟩ := DataW.trod_int Tryd.underlying3 (by simpa using h0);obtain ⟨s, e1, f1, -⟩ := DataW.trod_string Tryd.underlying9 (by simpa using h1);obtain ⟨b, e2, f2⟩ := DataW.trod_bool Tryd.underlying4 (by simpa using h2);simp at e0 e1 e2;subst e0 e1 e2 f0 f1 f2;obtain ⟨x0, x1, x2⟩ := x;simp [verbW] at hx;obtain ⟨⟨rfl, rfl, rfl⟩, -⟩ := hx
  rfl
set_option maxRecDepth 100000 in
theorem verbs_of_laid {W : World} (h : laidMetH Tryd.prog laidL W) : Verbs W := by
 rw [MakeChecks.laidMetH_plain _ _ _ (by kernel_rfl)] at h;unfold laidL at h;rw [laid_verbs] at h;obtain ⟨g, t, cs, fuel, p, hg, hty, hvar, hd⟩ := Lib.laidMet.reads h (.tail _ (.head _));obtain rfl := Option.some.inj ((show Tryd.prog.globalNamed "deemster/event.verbs" = some 0 by kernel_rfl).symm.trans hg);obtain rfl := Option.some.inj ((show (Tryd.prog.globals[0]?).map (·.type) = some 97 by kernel_rfl).symm.trans hty);have key : ∀ (j : Nat) (x : Int × List UInt8 × Bool), j < 6 → verbD[j]? = some x → W.cell? ⟨0, j * 3, none⟩ = some (.int .i64 x.1) ∧ W.cell? ⟨0, j * 3 + 1, none⟩ = some (.string ⟨x.2.1.toArray⟩) ∧ W.cell? ⟨0, j * 3 + 2, none⟩ = some (.bool x.2.2) := by
  intro j x hj hx;obtain ⟨fuel', d, q, hdi, he⟩ := Lib.array_elem Tryd.underlying97 hd j hj;rw [List.getElem?_map, hx] at hdi;simp only [Option.map_some, Option.some.injEq] at hdi;subst hdi;rw [show Tryd.prog.cellsOf 85 = 3 by kernel_rfl] at he;have hcs := verb_reads he;have e0 := congrArg (·[0]?) hcs;have e1 := congrArg (·[1]?) hcs;have e2 := congrArg (·[2]?) hcs;simp only [List.getElem?_take, List.getElem?_drop] at e0 e1 e2;refine ⟨?_, ?_, ?_⟩
  ·rw [World.var?_cell hg hvar (j * 3), ← Array.getElem?_toList]
   simpa using e0
  ·rw [World.var?_cell hg hvar (j * 3 + 1), ← Array.getElem?_toList]
   simpa using e1
  ·rw [World.var?_cell hg hvar (j * 3 + 2), ← Array.getElem?_toList]
   simpa using e2
 have k0 := key 0 _ (by omega) rfl;have k1 := key 1 _ (by omega) rfl;have k2 := key 2 _ (by omega) rfl;have k3 := key 3 _ (by omega) rfl;have k4 := key 4 _ (by omega) rfl;have k5 := key 5 _ (by omega) rfl;refine ⟨World.block_lt_of_cell? W _ k0.1, fun i u hu => ?_⟩;have hi : i < 18 := by
  have := (List.getElem?_eq_some_iff.1 hu).1;exact this
 have hc : i = 0 ∨ i = 1 ∨ i = 2 ∨ i = 3 ∨ i = 4 ∨ i = 5 ∨ i = 6 ∨ i = 7 ∨ i = 8 ∨ i = 9 ∨ i = 10 ∨ i = 11 ∨ i = 12 ∨ i = 13 ∨ i = 14 ∨ i = 15 ∨ i = 16 ∨ i = 17 := by omega
 rcases hc with rfl | rfl | rfl | rfl | rfl | rfl | rfl | rfl | rfl | rfl | rfl | rfl | rfl | rfl | rfl | rfl | rfl | rfl
 ·obtain rfl := Option.some.inj hu;exact k0.1
 ·obtain rfl := Option.some.inj hu;exact k0.2.1
 ·obtain rfl := Option.some.inj hu;exact k0.2.2
 ·obtain rfl := Option.some.inj hu;exact k1.1
 ·obtain rfl := Option.some.inj hu;exact k1.2.1
 ·obtain rfl := Option.some.inj hu;exact k1.2.2
 ·obtain rfl := Option.some.inj hu;exact k2.1
 ·obtain rfl := Option.some.inj hu;exact k2.2.1
 ·obtain rfl := Option.some.inj hu;exact k2.2.2
 ·obtain rfl := Option.some.inj hu;exact k3.1
 ·obtain rfl := Option.some.inj hu;exact k3.2.1
 ·obtain rfl := Option.some.inj hu;exact k3.2.2
 ·obtain rfl := Option.some.inj hu;exact k4.1
 ·obtain rfl := Option.some.inj hu;exact k4.2.1
 ·obtain rfl := Option.some.inj hu;exact k4.2.2
 ·obtain rfl := Option.some.inj hu;exact k5.1
 ·obtain rfl := Option.some.inj hu;exact k5.2.1
 ·obtain rfl := Option.some.inj hu;exact k5.2.2
end Go.Proofs.YtojlaphklkomfaaDoor
