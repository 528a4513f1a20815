/- Parts. -/
import Derived.Test.YtgimobilcdkmpaaDoorBitsPlaysCardK3
import Derived.Lib.SmallJoins
import Derived.ChangeSame
set_option maxRecDepth 10000
set_option maxHeartbeats 16000000
set_option linter.unusedVariables false
set_option linter.unusedSimpArgs false
namespace Go.Proofs.YtgimobilcdkmpaaDoor
open Go.RowKit Go.ChangeShapes Go.WideShapes Go.ChangeAt Go.Joins Go.Deep
theorem flat_lenA {α : Type} (f : α → List Value) (n : Nat) (h : ∀ x, (f x).length = n) (l : List α) : (l.flatMap f).length = l.length * n := by
 induction l with
 | nil => simp
 | cons x l ih => rw [List.flatMap_cons, List.length_append, ih, h, List.length_cons, Nat.add_mul, Nat.one_mul, Nat.add_comm]
theorem flat_getA {α : Type} (f : α → List Value) (n : Nat) (h : ∀ x, (f x).length = n) : ∀ (l : List α) (i : Nat) (x : α), l[i]? = some x → ∀ j, j < n → (l.flatMap f)[i * n + j]? = (f x)[j]?
 | [], i, x, hx, _, _ => by simp at hx
 | y :: l, 0, x, hx, j, hj => by
  simp at hx;subst hx;rw [List.flatMap_cons, List.getElem?_append_left (by rw [h]; omega), Nat.zero_mul, Nat.zero_add]
 | y :: l, i + 1, x, hx, j, hj => by
  have := flat_getA f n h l i x (by simpa using hx) j hj;rw [List.flatMap_cons, List.getElem?_append_right (by rw [h, Nat.add_mul]; omega), ← this]
  congr 1
  rw [h, Nat.add_mul];omega
theorem list_ofA {α : Type} {Q : Nat → α → Prop} : ∀ {N : Nat}, (∀ k, k < N → ∃ z, Q k z) → ∃ zs : List α, zs.length = N ∧ ∀ k z, zs[k]? = some z → Q k z
 | 0, _ => ⟨[], rfl, fun k z h => by simp at h⟩
 | N + 1, h => by
  obtain ⟨zs, hl, hz⟩ := list_ofA (N := N) (fun k hk => h k (by omega));obtain ⟨z, hq⟩ := h N (by omega);refine ⟨zs ++ [z], by simp [hl], fun k y hy => ?_⟩;rcases Nat.lt_or_ge k zs.length with hk | hk
  ·rw [List.getElem?_append_left hk] at hy;exact hz k y hy
  ·rw [List.getElem?_append_right hk] at hy;have hk0 : k - zs.length = 0 := by
    cases hj : k - zs.length with
    | zero => rfl
    | succ j => rw [hj] at hy; simp at hy
   rw [hk0] at hy;simp at hy;subst hy;have : k = N := by omega
   subst this;exact hq
structure ActA where
 d : Int
 n : Int
 L : List Int
 A : Option Addr
 c : Nat
def ActA.cs (x : ActA) : List Value := [.int .i64 x.d, .int .i64 x.n, .slice x.A x.L.length x.c]
structure ActOk (w : World) (B : Nat) (x : ActA) : Prop where
 row : Row w B x.A (x.L.map (Value.int .i64))
 le : x.L.length ≤ x.c
 cap : x.c ≤ maxLen
 wf : ∀ z ∈ x.L, (Lit.int .i64 z).wf = true
theorem ActOk.only {S : List Nat} {w w' : World} {B : Nat} {x : ActA} (h : ActOk w B x) (ho : Only S w w') (hS : ∀ i ∈ S, B ≤ i) : ActOk w' B x := ⟨h.row.only ho hS, h.le, h.cap, h.wf⟩
section
variable {H : Type} {enc : TypeId × Value → H} {P : Program} {w : World}
theorem row_ofA {α : Type} (f : α → List Value) (sz : Nat) (hf : ∀ x, (f x).length = sz) (hsz : 0 < sz) (Q : α → Prop) {t e : TypeId} {fuel : Nat} {cs : List Value} {x : DataW H × List MemPlace} (ht : P.underlying t = some (.slice e)) (hC : P.cellsOf e = sz)
  (each : ∀ fuel' cs' x', DataW.trod enc P w 0 (fun _ => true) true fuel' e cs' = some x' → ∃ y : α, Q y ∧ cs' = f y) (h : DataW.trod enc P w 0 (fun _ => true) true fuel t cs = some x) :
  ∃ (A : Option Addr) (n c : Nat) (l : List α), cs = [.slice A n c] ∧ n ≤ c ∧ c ≤ maxLen ∧ l.length = n ∧ (∀ y ∈ l, Q y) ∧ Row w w.heap.size A (l.flatMap f) := by
 rcases open_slice ht h with ⟨hcs, _⟩ | ⟨a, len, cap, m, n, D, Pl, hcs, _, hl, hm, hmm, _, hcell⟩
 ·exact ⟨none, 0, 0, [], hcs, Nat.le_refl _, by unfold maxLen; omega, rfl, (fun z hz => by cases hz), .inl rfl⟩
 ·simp only [if_true] at hmm;subst hmm;have each' : ∀ k, k < len → ∃ y : α, Q y ∧ ∀ i, i < sz → w.cell? (a.add (k * sz + i)) = (f y)[i]? := by
   intro k hk;obtain ⟨cs', hc, htr⟩ := hcell k (by omega);rw [hC] at hc;obtain ⟨y, hq, hcs'⟩ := each _ _ _ htr;obtain ⟨_, hcl, hat⟩ := World.cells?_some hc;refine ⟨y, hq, fun i hi => ?_⟩;have hk' : a.add (k * sz + i) = (a.add (k * sz)).add i := by rw [Go.Deep.add_add]
   rw [hk', hat i hi, hcs']
  obtain ⟨l, hll, hz⟩ := list_ofA each';refine ⟨some a, len, _, l, hcs, hl, hm, hll, fun z hzm => ?_, ?_⟩
  ·obtain ⟨k, hk⟩ := List.mem_iff_getElem?.1 hzm;exact (hz k z hk).1
  ·by_cases h0 : len = 0
   ·subst h0;have : l = [] := List.eq_nil_of_length_eq_zero hll;subst this;exact .inl rfl
   ·obtain ⟨x0, -, hx0⟩ := each' 0 (by omega);obtain ⟨u0, hu0⟩ : ∃ u, (f x0)[0]? = some u := ⟨_, List.getElem?_eq_getElem (by rw [hf]; exact hsz)⟩;have hz0 : w.cell? (a.add 0) = some u0 := by
     have := hx0 0 hsz;rw [hu0] at this
     simpa using this
    have hA : a.spot = none := by
     unfold World.cell? Addr.add at hz0
     cases hsp : a.spot with
     | none => rfl
     | some s =>
      rw [if_pos rfl] at hz0
      split at hz0
      ·simp [hsp] at hz0
      ·cases hz0
    obtain ⟨b, off, sp⟩ := a;simp only at hA;subst hA;have hb : b < w.heap.size := World.block_lt_of_cell? w _ (by simpa [Addr.add] using hz0);refine .inr ⟨b, off, rfl, hb, Nat.le_refl _, fun t u hu => ?_⟩;have hlt : t < (l.flatMap f).length := (List.getElem?_eq_some_iff.1 hu).1;rw [flat_lenA f sz hf] at hlt;have hts : t / sz < l.length := (Nat.div_lt_iff_lt_mul hsz).2 hlt;obtain ⟨x, hx⟩ : ∃ x, l[t / sz]? = some x := ⟨_, List.getElem?_eq_getElem hts⟩;have g := flat_getA f sz hf l (t / sz) x hx (t % sz) (Nat.mod_lt _ hsz);have e : t / sz * sz + t % sz = t := by rw [Nat.mul_comm]; exact Nat.div_add_mod t sz
    rw [e, hu] at g;have h1 := (hz (t / sz) x hx).2 (t % sz) (Nat.mod_lt _ hsz);rw [e] at h1;have e' : (⟨b, off, none⟩ : Addr).add t = ⟨b, off + t, none⟩ := by
     unfold Addr.add
     split
     ·rename_i h; subst h; rfl
     ·rfl
    rw [e'] at h1;rw [h1];exact g.symm
theorem flat_one (l : List Int) : (l.flatMap fun z => [Value.int .i64 z]) = l.map (Value.int .i64) := by
 induction l with
 | nil => rfl
 | cons x l ih => rw [List.flatMap_cons, ih]; rfl
theorem open_row_acts {r : Reach} {b0 : Nat} {t e ti tl : TypeId} {f0 f1 f2 : Field} {v : Value} {d : DataW H} {ps : List MemPlace} (ht : P.underlying t = some (.slice e)) (hs : P.underlying e = some (.struct #[f0, f1, f2]))
  (hi : P.underlying ti = some (.int .i64)) (hl : P.underlying tl = some (.slice ti)) (hC : P.cellsOf e = 3) (ci : P.cellsOf ti = 1) (cl : P.cellsOf tl = 1)
  (e0 : f0.type = ti ∧ f0.offset = 0) (e1 : f1.type = ti ∧ f1.offset = 1) (e2 : f2.type = tl ∧ f2.offset = 2)
  (hv : Value.okWide P w r b0 t v) (h : DataW.Trod enc P w 0 (fun _ => true) true t v d ps) :
  ∃ (A : Option Addr) (n c : Nat) (l : List ActA), v = .slice A n c ∧ n ≤ c ∧ c ≤ maxLen ∧ l.length = n ∧ (∀ x ∈ l, ActOk w w.heap.size x) ∧ Row w w.heap.size A (l.flatMap ActA.cs) := by
 obtain ⟨a0, len, cap, rfl⟩ := okWide_slice ht hv;obtain ⟨fuel, hf⟩ := h;have ints1 : ∀ fuel' cs' x', DataW.trod enc P w 0 (fun _ => true) true fuel' ti cs' = some x' → ∃ y : Int, (Lit.int .i64 y).wf = true ∧ cs' = [.int .i64 y] := fun fuel' cs' x' h => by
  obtain ⟨s, a, -, ws⟩ := DataW.trod_int hi h;exact ⟨s, ws, a⟩
 have each : ∀ fuel' cs' x', DataW.trod enc P w 0 (fun _ => true) true fuel' e cs' = some x' → ∃ y : ActA, ActOk w w.heap.size y ∧ cs' = y.cs := fun fuel' cs' x' h => by
  obtain ⟨xs, n, _, rfl, hl3, hlen, hf⟩ := DataW.trod_struct hs h;rw [hC] at hl3
  match cs', hl3 with
  | [c0, c1, c2], _ =>
   have h0 := hf 0 f0 rfl;have h1 := hf 1 f1 rfl;have h2 := hf 2 f2 rfl;rw [e0.1, e0.2, ci] at h0;rw [e1.1, e1.2, ci] at h1;rw [e2.1, e2.2, cl] at h2
   match xs, hlen with
   | [y0, y1, y2], _ =>
    obtain ⟨s, a0, -, -⟩ := DataW.trod_int hi (by simpa using h0);obtain ⟨f, a1, -, -⟩ := DataW.trod_int hi (by simpa using h1);obtain ⟨A, m, c, l, a2, hle, hcm, hll, hq, hR⟩ := row_ofA (fun z : Int => [Value.int .i64 z]) 1 (fun _ => rfl) (by omega) (fun z => (Lit.int .i64 z).wf = true) hl ci ints1 (by simpa using h2);rw [flat_one] at hR;simp at a0 a1 a2;subst a0 a1 a2 hll;exact ⟨⟨s, f, l, A, c⟩, ⟨hR, hle, hcm, hq⟩, rfl⟩
 obtain ⟨A, n, c, l, hcs, h1, h2, h3, h4, h5⟩ := row_ofA ActA.cs 3 (fun _ => rfl) (by omega) (ActOk w w.heap.size) ht hC each hf;simp [Value.cells] at hcs;obtain ⟨rfl, rfl, rfl⟩ := hcs;exact ⟨_, _, _, l, rfl, h1, h2, h3, h4, h5⟩
end
end Go.Proofs.YtgimobilcdkmpaaDoor
