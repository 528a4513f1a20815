/- Parts. -/
import Derived.Test.YthdofaoamljkfaaGreatDoorLaw24AllK1
import Derived.OrdersHeld
set_option maxRecDepth 10000
set_option maxHeartbeats 16000000
set_option linter.unusedVariables false
set_option linter.unusedSimpArgs false
namespace Go.Proofs.YthdofaoamljkfaaGreatDoor
section
variable {P : Program} {ops : Array Oper} {Q : Exit → Act → World → Prop} {md : Region.Mode} {S : Array Bool → World → Prop}
def wpAnyT (P : Program) (md : Region.Mode) (ops : Array Oper) (Q : Exit → Act → World → Prop) (S : Array Bool → World → Prop) : Nat → Array Bool → Act → World → Prop
 | 0, listed, a, w => Region.ready md ops listed = [] ∧ Q .normal a w
 | fuel + 1, listed, a, w =>
  (Region.ready md ops listed = [] → Q .normal a w) ∧
  ∀ i ∈ Region.ready md ops listed, wpOp P ops Q i (fun a' w' => S (listed.setIfInBounds i true) w' ∧ wpAnyT P md ops Q S fuel (listed.setIfInBounds i true) a' w') a w
theorem wpAny_of_timed : ∀ (fuel : Nat) (listed : Array Bool) (a : Act) (w : World), wpAnyT P md ops Q S fuel listed a w → wpAny P md ops Q fuel listed a w
 | 0, _, _, _, h => h
 | fuel + 1, _, _, _, h => ⟨h.1, fun i hi => wpOp_mono (fun a' w' h' => wpAny_of_timed fuel _ a' w' h'.2) (h.2 i hi)⟩
def Ahead (md : Region.Mode) (ops : Array Oper) (K : Array Bool) (i : Nat) (L : Array Bool) : Prop :=
 ∀ j, (K.getD j true = true → L.getD j true = true) ∧ (L.getD j true = true → K.getD j true = true ∨ ∀ oj, ops[j]? = some oj → ∀ e ∈ oj.after, Region.binds md e = true → e.on ≠ i)
theorem timed_first {K : Array Bool} {i : Nat} {oi : Oper} {v : Value} (hi : ops[i]? = some oi) (hsel : ∀ (j : Nat) (o : Oper) cs b, ops[j]? = some o → o.op ≠ .select cs b)
  (hQ : ∀ c a w, Q (.panic c) (a.put oi.dst v) w → Q (.panic c) a w) (hinv : ∀ L w, S (L.setIfInBounds i true) w ↔ S L w) :
  ∀ (fuel : Nat) (listed : Array Bool) (a : Act) (w : World),
   (∀ j oj, ops[j]? = some oj → j ≠ i → listed.getD j true = false → (∀ e ∈ oj.after, Region.binds md e = true → e.on ≠ i) → oi.apart ops oj = true) →
   i ∈ Region.ready md ops listed → YieldsIf P ops (fun w => ∃ L, Ahead md ops K i L ∧ S L w) oi v a → Ahead md ops K i listed → S listed w →
   wpAnyT P md ops Q S fuel (listed.setIfInBounds i true) (a.put oi.dst v) w → wpAnyT P md ops Q S (fuel + 1) listed a w := by
 intro fuel
 induction fuel with
 | zero =>
  intro listed a w _ hr hy hA hS H;refine ⟨fun h => (by rw [h] at hr; cases hr), fun j hj => ?_⟩
  by_cases hji : j = i
  ·subst hji;exact hy.wpOp hi ⟨listed, hA, hS⟩ ⟨(hinv _ _).2 hS, H⟩
  ·have := ready_mono hj hji;rw [H.1] at this
   cases this
 | succ fuel ih =>
  intro listed a w hfree hr hy hA hS H;refine ⟨fun h => (by rw [h] at hr; cases hr), fun j hj => ?_⟩
  by_cases hji : j = i
  ·subst hji;exact hy.wpOp hi ⟨listed, hA, hS⟩ ⟨(hinv _ _).2 hS, H⟩
  ·have h1 := H.2 j (ready_mono hj hji);obtain ⟨hjun, oj, hoj, hall⟩ := mem_ready.1 hj;have hnot : ∀ e ∈ oj.after, Region.binds md e = true → e.on ≠ i := fun e he hb heq => by
    have h1 := hall e he hb;have h0 := (mem_ready.1 hr).1;rw [heq] at h1;rcases Nat.lt_or_ge i listed.size with h' | h'
    ·simp [h'] at h0 h1;rw [h0] at h1
     cases h1
    ·simp [Array.getElem?_eq_none h'] at h1
   have h2 := wpOp_putIf hoj (hfree j oj hoj hji hjun hnot) (fun cs b => hsel i oi cs b hi) (fun cs b => hsel j oj cs b hoj) hQ hy h1;have hfree' : ∀ k ok, ops[k]? = some ok → k ≠ i → (listed.setIfInBounds j true).getD k true = false →
     (∀ e ∈ ok.after, Region.binds md e = true → e.on ≠ i) → oi.apart ops ok = true := fun k ok hk hki hun hno => by
    refine hfree k ok hk hki ?_ hno
    by_cases hjk : j = k
    ·subst hjk;exact hjun
    ·rw [getD_set_ne true hjk] at hun;exact hun
   have hA' : Ahead md ops K i (listed.setIfInBounds j true) := fun k => by
    by_cases hjk : j = k
    ·subst hjk;refine ⟨fun _ => ?_, fun _ => Or.inr fun ok hk => ?_⟩
     ·rcases Nat.lt_or_ge j listed.size with h' | h'
      ·simp [h']
      ·simp [Array.getElem?_eq_none, h']
     ·rw [hoj] at hk;injection hk with hk;subst hk;exact hnot
    ·rw [getD_set_ne true hjk];exact hA k
   refine wpOp_mono (fun a' w' h3 => ?_) h2;have hS' : S (listed.setIfInBounds j true) w' := by
    have := h3.2.1;rw [Array.setIfInBounds_comm _ _ (Ne.symm hji)] at this;exact (hinv _ _).1 this
   refine ⟨hS', ih (listed.setIfInBounds j true) a' w' hfree' (ready_mono hr (Ne.symm hji)) h3.1 hA' hS' ?_⟩;rw [Array.setIfInBounds_comm _ _ hji];exact h3.2.2

/-! ### Facts with a beginning and an end -/
structure Span where
 pre : List Nat
 till : List Nat
 fact : World → Prop
def Timed (F : List Span) (L : Array Bool) (w : World) : Prop :=
 ∀ x ∈ F, x.pre.all (fun j => L.getD j true) = true → x.till.all (fun j => !L.getD j true) = true → x.fact w
theorem timed_nil {L : Array Bool} {w : World} : Timed [] L w := fun _ h => by cases h
theorem timed_holds {F : List Span} {x : Span} {L : Array Bool} {w : World} (h : x.fact w) (r : Timed F L w) : Timed (x :: F) L w := fun y hy => by
 rcases List.mem_cons.1 hy with rfl | hy
 ·exact fun _ _ => h
 ·exact r y hy
theorem timed_waits {F : List Span} {x : Span} {L : Array Bool} {w : World} (h : x.pre.all (fun j => L.getD j true) = false) (r : Timed F L w) : Timed (x :: F) L w := fun y hy => by
 rcases List.mem_cons.1 hy with rfl | hy
 ·intro h1;rw [h] at h1
  cases h1
 ·exact r y hy
theorem timed_over {F : List Span} {x : Span} {L : Array Bool} {w : World} (h : x.till.all (fun j => !L.getD j true) = false) (r : Timed F L w) : Timed (x :: F) L w := fun y hy => by
 rcases List.mem_cons.1 hy with rfl | hy
 ·intro _ h1;rw [h] at h1
  cases h1
 ·exact r y hy
def quietAt (F : List Span) (i : Nat) : Bool := F.all fun x => !(x.pre.contains i) && !(x.till.contains i)
theorem timed_inv {F : List Span} {i : Nat} (h : quietAt F i = true) (L : Array Bool) (w : World) : Timed F (L.setIfInBounds i true) w ↔ Timed F L w := by
 have e : ∀ x ∈ F, x.pre.all (fun j => (L.setIfInBounds i true).getD j true) = x.pre.all (fun j => L.getD j true) ∧ x.till.all (fun j => !(L.setIfInBounds i true).getD j true) = x.till.all (fun j => !L.getD j true) := fun x hx => by
  have hx' := List.all_eq_true.1 h x hx;simp only [Bool.and_eq_true, Bool.not_eq_true', List.contains_eq_mem, decide_eq_false_iff_not] at hx';have all_congr : ∀ (l : List Nat) (f g : Nat → Bool), (∀ j ∈ l, f j = g j) → l.all f = l.all g := fun l f g hfg => by
   induction l with
   | nil => rfl
   | cons a l ih => rw [List.all_cons, List.all_cons, hfg a (by simp), ih (fun j hj => hfg j (by simp [hj]))]
  exact ⟨all_congr _ _ _ fun j hj => getD_set_ne true (show i ≠ j from fun e => hx'.1 (e ▸ hj)), all_congr _ _ _ fun j hj => by rw [getD_set_ne true (show i ≠ j from fun e => hx'.2 (e ▸ hj))]⟩
 constructor
 ·intro h x hx h1 h2;exact h x hx ((e x hx).1.trans h1) ((e x hx).2.trans h2)
 ·intro h x hx h1 h2;exact h x hx ((e x hx).1.symm.trans h1) ((e x hx).2.symm.trans h2)
def liveFor (md : Region.Mode) (ops : Array Oper) (F : List Span) (K : Array Bool) (i k : Nat) : Bool :=
 match F[k]? with
 | none => false
 | some x => x.pre.all (fun j => K.getD j true) && x.till.all fun t => !K.getD t true && ((ops[t]?).map fun o => o.after.any fun e => Region.binds md e && e.on == i).getD false
theorem timed_use {F : List Span} {K L : Array Bool} {i k : Nat} {x : Span} {w : World} (hk : F[k]? = some x) (hl : liveFor md ops F K i k = true) (hA : Ahead md ops K i L) (hS : Timed F L w) : x.fact w := by
 unfold liveFor at hl;simp only [hk, Bool.and_eq_true, List.all_eq_true] at hl;refine hS x (List.mem_of_getElem? hk) ?_ ?_
 ·rw [List.all_eq_true];intro j hj;exact (hA j).1 (hl.1 j hj)
 ·rw [List.all_eq_true];intro t ht;obtain ⟨h1, h2⟩ := hl.2 t ht
  by_cases hL : L.getD t true = true
  ·rcases (hA t).2 hL with h3 | h3
   ·rw [h3] at h1
    cases h1
   ·cases ho : ops[t]? with
    | none => rw [ho] at h2; cases h2
    | some ot =>
     rw [ho] at h2;simp only [Option.map_some, Option.getD_some, Array.any_eq_true', Bool.and_eq_true, beq_iff_eq] at h2;obtain ⟨e, he, hb, hon⟩ := h2;exact absurd hon (h3 ot ho e he hb)
  ·simpa using hL

/-! ### The moves -/
theorem wp_region_timed {F : List Span} {id : Nat} {a : Act} {w : World} (hm : P.follows .mixedOrders = true) (hS : Timed F (Array.replicate ops.size false) w.drew)
  (h : Timed F (Array.replicate ops.size false) w.drew → wpAnyT P .any ops Q (Timed F) ops.size (Array.replicate ops.size false) a w.drew) : (Code.region id ops true).wp P Q a w :=
 wp_region_any hm (wpAny_of_timed _ _ _ _ (h hS))
theorem timed_pure {F : List Span} {i : Nat} {oi : Oper} {v : Value} {fuel : Nat} {listed : Array Bool} {a : Act} {w : World} (hi : ops[i]? = some oi)
  (hs : Region.noSelect ops = true) (hf : Region.free md ops listed i = true) (hr : (Region.ready md ops listed).contains i = true)
  (hQ : ∀ c a w, Q (.panic c) (a.put oi.dst v) w → Q (.panic c) a w) (hq : quietAt F i = true) (hw : Region.wanted oi (yielded ops a.tmps) = true)
  (hy : ∀ w, (execOp a.eval oi).run P w = .ok (.value v) w)
  (h : Timed F (listed.setIfInBounds i true) w → wpAnyT P md ops Q (Timed F) fuel (listed.setIfInBounds i true) (a.put oi.dst v) w) : Timed F listed w → wpAnyT P md ops Q (Timed F) (fuel + 1) listed a w := fun hS =>
 timed_first (K := listed) hi (Region.noSelect_spec hs) hQ (timed_inv hq) fuel listed a w (Region.free_spec hi hf) (by simpa using hr) (Or.inl ⟨hw, fun w _ => hy w⟩) (fun j => ⟨id, Or.inl⟩) hS (h ((timed_inv hq _ _).2 hS))
theorem timed_idle {F : List Span} {i : Nat} {oi : Oper} {fuel : Nat} {listed : Array Bool} {a : Act} {w : World} (hi : ops[i]? = some oi)
  (hs : Region.noSelect ops = true) (hf : Region.free md ops listed i = true) (hr : (Region.ready md ops listed).contains i = true)
  (hQ : ∀ c a w, Q (.panic c) (a.put oi.dst undef) w → Q (.panic c) a w) (hq : quietAt F i = true) (hw : Region.wanted oi (yielded ops a.tmps) = false)
  (h : Timed F (listed.setIfInBounds i true) w → wpAnyT P md ops Q (Timed F) fuel (listed.setIfInBounds i true) (a.put oi.dst undef) w) : Timed F listed w → wpAnyT P md ops Q (Timed F) (fuel + 1) listed a w := fun hS =>
 timed_first (K := listed) hi (Region.noSelect_spec hs) hQ (timed_inv hq) fuel listed a w (Region.free_spec hi hf) (by simpa using hr) (Or.inr ⟨hw, rfl⟩) (fun j => ⟨id, Or.inl⟩) hS (h ((timed_inv hq _ _).2 hS))
theorem timed_read {F : List Span} {i : Nat} (k : Nat) {x : Span} {oi : Oper} {v : Value} {fuel : Nat} {listed : Array Bool} {a : Act} {w : World} (hi : ops[i]? = some oi)
  (hs : Region.noSelect ops = true) (hf : Region.free md ops listed i = true) (hr : (Region.ready md ops listed).contains i = true)
  (hQ : ∀ c a w, Q (.panic c) (a.put oi.dst v) w → Q (.panic c) a w) (hq : quietAt F i = true) (hw : Region.wanted oi (yielded ops a.tmps) = true) (hk : F[k]? = some x)
  (hl : liveFor md ops F listed i k = true) (hy : ∀ w, x.fact w → (execOp a.eval oi).run P w = .ok (.value v) w)
  (h : Timed F (listed.setIfInBounds i true) w → wpAnyT P md ops Q (Timed F) fuel (listed.setIfInBounds i true) (a.put oi.dst v) w) : Timed F listed w → wpAnyT P md ops Q (Timed F) (fuel + 1) listed a w := fun hS =>
 timed_first (K := listed) hi (Region.noSelect_spec hs) hQ (timed_inv hq) fuel listed a w (Region.free_spec hi hf) (by simpa using hr)
  (Or.inl ⟨hw, fun w ⟨L, hA, hT⟩ => hy w (timed_use hk hl hA hT)⟩) (fun j => ⟨id, Or.inl⟩) hS (h ((timed_inv hq _ _).2 hS))
theorem timed_step {i : Nat} {oi : Oper} {fuel : Nat} {listed : Array Bool} {a : Act} {w : World} (hr : Region.ready md ops listed = [i]) (ho : ops[i]? = some oi)
  (h : ∀ K' : Act → World → Prop, Shut (∀ a w, S (listed.setIfInBounds i true) w → (S (listed.setIfInBounds i true) w → wpAnyT P md ops Q S fuel (listed.setIfInBounds i true) a w) → K' a w) →
   if Region.wanted oi (yielded ops a.tmps) = true then Oper.wp P oi a w K' Q else K' (a.put oi.dst undef) w) : S listed w → wpAnyT P md ops Q S (fuel + 1) listed a w := by
 intro _;refine ⟨fun h0 => (by rw [hr] at h0; cases h0), fun j hj => ?_⟩;rw [hr] at hj;obtain rfl := List.mem_singleton.1 hj;exact wpOp_step ho (fun K' hK => h K' (fun a w hS hW => hK a w ⟨hS, hW hS⟩))
theorem timed_done {listed : Array Bool} {a : Act} {w : World} (hr : Region.ready md ops listed = []) (h : Q .normal a w) : ∀ fuel, S listed w → wpAnyT P md ops Q S fuel listed a w
 | 0, _ => ⟨hr, h⟩
 | _ + 1, _ => ⟨fun _ => h, by rw [hr]; simp⟩
end
section
variable {P : Program} {md : Region.Mode} {ops : Array Oper} {Q : Exit → Act → World → Prop}
theorem th1 {x : Span} {L : Array Bool} {w : World} (h : x.fact w) : Timed [x] L w := timed_holds h timed_nil
theorem tst {S : Array Bool → World → Prop} {i : Nat} {oi : Oper} {fuel : Nat} {listed : Array Bool} {a : Act} {w : World}
    (h : ∀ K' : Act → World → Prop, Shut (∀ a w, S (listed.setIfInBounds i true) w → (S (listed.setIfInBounds i true) w → wpAnyT P md ops Q S fuel (listed.setIfInBounds i true) a w) → K' a w) →
      if Region.wanted oi (yielded ops a.tmps) = true then Oper.wp P oi a w K' Q else K' (a.put oi.dst undef) w) (ho : ops[i]? = some oi := by rfl) (hr : Region.ready md ops listed = [i] := by kernel_rfl) : S listed w → wpAnyT P md ops Q S (fuel + 1) listed a w := timed_step hr ho h
theorem tp {F : List Span} {i : Nat} {oi : Oper} {v : Value} {fuel : Nat} {listed : Array Bool} {a : Act} {w : World} 
    (h : Timed F (listed.setIfInBounds i true) w → wpAnyT P md ops Q (Timed F) fuel (listed.setIfInBounds i true) (a.put oi.dst v) w) (hi : ops[i]? = some oi := by rfl) (hy : ∀ w, (execOp a.eval oi).run P w = .ok (.value v) w := by (intro w; go_simp; try with_reducible rfl))
    (hs : Region.noSelect ops = true := by kernel_rfl) (hf : Region.free md ops listed i = true := by kernel_rfl) (hr : (Region.ready md ops listed).contains i = true := by kernel_rfl)
    (hQ : ∀ c a w, Q (.panic c) (a.put oi.dst v) w → Q (.panic c) a w := by exact fun _ _ _ h => h) (hq : quietAt F i = true := by kernel_rfl) (hw : Region.wanted oi (yielded ops a.tmps) = true := by kernel_rfl) :
    Timed F listed w → wpAnyT P md ops Q (Timed F) (fuel + 1) listed a w := timed_pure hi hs hf hr hQ hq hw hy h
theorem tpu {F : List Span} {i : Nat} {oi : Oper} {v : Value} {fuel : Nat} {listed : Array Bool} {a : Act} {w : World} (hy : ∀ w, (execOp a.eval oi).run P w = .ok (.value v) w)
    (h : Timed F (listed.setIfInBounds i true) w → wpAnyT P md ops Q (Timed F) fuel (listed.setIfInBounds i true) (a.put oi.dst v) w) (hi : ops[i]? = some oi := by rfl)
    (hs : Region.noSelect ops = true := by kernel_rfl) (hf : Region.free md ops listed i = true := by kernel_rfl) (hr : (Region.ready md ops listed).contains i = true := by kernel_rfl)
    (hQ : ∀ c a w, Q (.panic c) (a.put oi.dst v) w → Q (.panic c) a w := by exact fun _ _ _ h => h) (hq : quietAt F i = true := by kernel_rfl) (hw : Region.wanted oi (yielded ops a.tmps) = true := by kernel_rfl) :
    Timed F listed w → wpAnyT P md ops Q (Timed F) (fuel + 1) listed a w := timed_pure hi hs hf hr hQ hq hw hy h
theorem tid {F : List Span} {i : Nat} {oi : Oper} {fuel : Nat} {listed : Array Bool} {a : Act} {w : World}
    (h : Timed F (listed.setIfInBounds i true) w → wpAnyT P md ops Q (Timed F) fuel (listed.setIfInBounds i true) (a.put oi.dst undef) w) (hi : ops[i]? = some oi := by rfl)
    (hs : Region.noSelect ops = true := by kernel_rfl) (hf : Region.free md ops listed i = true := by kernel_rfl) (hr : (Region.ready md ops listed).contains i = true := by kernel_rfl)
    (hQ : ∀ c a w, Q (.panic c) (a.put oi.dst undef) w → Q (.panic c) a w := by exact fun _ _ _ h => h) (hq : quietAt F i = true := by kernel_rfl) (hw : Region.wanted oi (yielded ops a.tmps) = false := by kernel_rfl) :
    Timed F listed w → wpAnyT P md ops Q (Timed F) (fuel + 1) listed a w := timed_idle hi hs hf hr hQ hq hw h
theorem trd {F : List Span} {i : Nat} (k : Nat) {x : Span} {oi : Oper} {v : Value} {fuel : Nat} {listed : Array Bool} {a : Act} {w : World} (hy : ∀ w, x.fact w → (execOp a.eval oi).run P w = .ok (.value v) w)
    (h : Timed F (listed.setIfInBounds i true) w → wpAnyT P md ops Q (Timed F) fuel (listed.setIfInBounds i true) (a.put oi.dst v) w) (hi : ops[i]? = some oi := by rfl)
    (hs : Region.noSelect ops = true := by kernel_rfl) (hf : Region.free md ops listed i = true := by kernel_rfl) (hr : (Region.ready md ops listed).contains i = true := by kernel_rfl)
    (hQ : ∀ c a w, Q (.panic c) (a.put oi.dst v) w → Q (.panic c) a w := by exact fun _ _ _ h => h) (hq : quietAt F i = true := by kernel_rfl) (hw : Region.wanted oi (yielded ops a.tmps) = true := by kernel_rfl) (hk : F[k]? = some x := by rfl)
    (hl : liveFor md ops F listed i k = true := by kernel_rfl) :
    Timed F listed w → wpAnyT P md ops Q (Timed F) (fuel + 1) listed a w := timed_read k hi hs hf hr hQ hq hw hk hl hy h
theorem tQ (i : Nat) {F : List Span} {oi : Oper} {v : Value} {fuel : Nat} {listed : Array Bool} {a a' : Act} {w : World}
    (hi : ops[i]? = some oi := by rfl) (hy : ∀ w, (execOp a.eval oi).run P w = .ok (.value v) w := by (intro w; go_simp; try with_reducible rfl))
    (ha : a.put oi.dst v = a' := by ((try simp only [tdz]); with_reducible rfl))
    (hs : Region.noSelect ops = true := by kernel_rfl) (hf : Region.free md ops listed i = true := by kernel_rfl) (hr : (Region.ready md ops listed).contains i = true := by kernel_rfl)
    (hQ : ∀ c a w, Q (.panic c) (a.put oi.dst v) w → Q (.panic c) a w := by exact fun _ _ _ h => h) (hq : quietAt F i = true := by kernel_rfl) (hw : Region.wanted oi (yielded ops a.tmps) = true := by kernel_rfl)
    (h : Timed F (listed.setIfInBounds i true) w → wpAnyT P md ops Q (Timed F) fuel (listed.setIfInBounds i true) a' w) :
    Timed F listed w → wpAnyT P md ops Q (Timed F) (fuel + 1) listed a w := timed_pure hi hs hf hr hQ hq hw hy (ha ▸ h)
theorem trq (i k : Nat) {x : Span} {C D : World → Prop} (hC : Go.RowKit.Hid (∀ w, D w → C w)) {F : List Span} {oi : Oper} {v : Value} {fuel : Nat} {listed : Array Bool} {a a' : Act} {w : World}
    (hi : ops[i]? = some oi := by rfl) (hk : F[k]? = some x := by rfl) (hD : ∀ w, x.fact w → D w := by exact fun _ h => h) (hy : ∀ w, C w → (execOp a.eval oi).run P w = .ok (.value v) w := by (intro wq q; go_simp; try with_reducible rfl))
    (ha : a.put oi.dst v = a' := by ((try simp only [tdz]); with_reducible rfl))
    (hs : Region.noSelect ops = true := by kernel_rfl) (hf : Region.free md ops listed i = true := by kernel_rfl) (hr : (Region.ready md ops listed).contains i = true := by kernel_rfl)
    (hQ : ∀ c a w, Q (.panic c) (a.put oi.dst v) w → Q (.panic c) a w := by exact fun _ _ _ h => h) (hq : quietAt F i = true := by kernel_rfl) (hw : Region.wanted oi (yielded ops a.tmps) = true := by kernel_rfl)
    (hl : liveFor md ops F listed i k = true := by kernel_rfl)
    (h : Timed F (listed.setIfInBounds i true) w → wpAnyT P md ops Q (Timed F) fuel (listed.setIfInBounds i true) a' w) :
    Timed F listed w → wpAnyT P md ops Q (Timed F) (fuel + 1) listed a w := timed_read k hi hs hf hr hQ hq hw hk hl (fun w hx => hy w (hC.out w (hD w hx))) (ha ▸ h)
theorem tiq (i : Nat) {F : List Span} {oi : Oper} {fuel : Nat} {listed : Array Bool} {a a' : Act} {w : World}
    (hi : ops[i]? = some oi := by rfl) (ha : a.put oi.dst undef = a' := by ((try simp only [tdz]); with_reducible rfl))
    (hs : Region.noSelect ops = true := by kernel_rfl) (hf : Region.free md ops listed i = true := by kernel_rfl) (hr : (Region.ready md ops listed).contains i = true := by kernel_rfl)
    (hQ : ∀ c a w, Q (.panic c) (a.put oi.dst undef) w → Q (.panic c) a w := by exact fun _ _ _ h => h) (hq : quietAt F i = true := by kernel_rfl) (hw : Region.wanted oi (yielded ops a.tmps) = false := by kernel_rfl)
    (h : Timed F (listed.setIfInBounds i true) w → wpAnyT P md ops Q (Timed F) fuel (listed.setIfInBounds i true) a' w) :
    Timed F listed w → wpAnyT P md ops Q (Timed F) (fuel + 1) listed a w := timed_idle hi hs hf hr hQ hq hw (ha ▸ h)
theorem tdn {S : Array Bool → World → Prop} {fuel : Nat} {listed : Array Bool} {a : Act} {w : World} (h : Q .normal a w) (hr : Region.ready md ops listed = [] := by kernel_rfl) : S listed w → wpAnyT P md ops (NoPanic Q) S fuel listed a w := timed_done hr (NoPanic.normal h) fuel
theorem rgo {F : List Span} {id : Nat} {a : Act} {w : World} (hS : Timed F (Array.replicate ops.size false) w.drew)
    (h : Timed F (Array.replicate ops.size false) w.drew → wpAnyT P .any ops (NoPanic Q) (Timed F) ops.size (Array.replicate ops.size false) a w.drew) (hm : P.follows .mixedOrders = true := by kernel_rfl) : (Code.region id ops true).wp P Q a w := wp_region_noPanic (wp_region_timed hm hS h)
theorem rg1 (T S : List Nat) {id : Nat} {a : Act} (w : World)
    (h : Timed [⟨[], T, fun w' => Only S w w'⟩] (Array.replicate ops.size false) w.drew → wpAnyT P .any ops (NoPanic Q) (Timed [⟨[], T, fun w' => Only S w w'⟩]) ops.size (Array.replicate ops.size false) a w.drew) (hm : P.follows .mixedOrders = true := by kernel_rfl) : (Code.region id ops true).wp P Q a w := rgo (th1 ((Only.refl S w).drew)) h hm
theorem kOut {x : Span} {L : Array Bool} {fuel : Nat} {K : Act → World → Prop} {a a' : Act} {w : World} (hK : Shut (∀ a w, Timed [x] L w → (Timed [x] L w → wpAnyT P md ops Q (Timed [x]) fuel L a w) → K a w)) (X : x.fact w)
    (ha : a = a' := by ((try simp only [tdz]); with_reducible rfl)) (h : Timed [x] L w → wpAnyT P md ops Q (Timed [x]) fuel L a' w) : K a w := hK.out _ _ (th1 X) (ha ▸ h)
end
end Go.Proofs.YthdofaoamljkfaaGreatDoor
