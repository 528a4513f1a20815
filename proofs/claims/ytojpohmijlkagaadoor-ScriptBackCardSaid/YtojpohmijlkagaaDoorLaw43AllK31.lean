/- Parts. -/
import Derived.Test.YtojpohmijlkagaaDoorLaw43AllK15
import Derived.Test.YtojpohmijlkagaaDoorLaw43AllK6
set_option maxRecDepth 10000
set_option maxHeartbeats 16000000
set_option linter.unusedVariables false
set_option linter.unusedSimpArgs false
namespace Go.Proofs.YtojpohmijlkagaaDoor
section
variable {P : Program} {ops : Array Oper} {Q : Exit → Act → World → Prop} {md : Region.Mode} {S : Array Bool → World → Prop}
def AheadD (md : Region.Mode) (ops : Array Oper) (K : Array Bool) (i : Nat) (L : Array Bool) : Prop :=
 ∀ j, (K.getD j true = true → L.getD j true = true) ∧ (L.getD j true = true → K.getD j true = true ∨ ∀ oj, ops[j]? = some oj → ∀ e ∈ oj.after, Region.binds md e = true → e.on ≠ i ∧ L.getD e.on true = true)
theorem getD_grow {L : Array Bool} {j k : Nat} (h : L.getD k true = true) : (L.setIfInBounds j true).getD k true = true := by
 by_cases hjk : j = k
 ·subst hjk;rcases Nat.lt_or_ge j L.size with h' | h'
  ·simp [h']
  ·simp [Array.getElem?_eq_none, h']
 ·rw [getD_set_ne true hjk];exact h
theorem timed_firstD {K : Array Bool} {i : Nat} {oi : Oper} {v : Value} (hi : ops[i]? = some oi) (hsel : ∀ (j : Nat) (o : Oper) cs b, ops[j]? = some o → o.op ≠ .select cs b)
  (hQ : ∀ c a w, Q (.panic c) (a.put oi.dst v) w → Q (.panic c) a w) (hinv : ∀ L w, S (L.setIfInBounds i true) w ↔ S L w) :
  ∀ (fuel : Nat) (listed : Array Bool) (a : Act) (w : World),
   (∀ j oj, ops[j]? = some oj → j ≠ i → listed.getD j true = false → (∀ e ∈ oj.after, Region.binds md e = true → e.on ≠ i) → oi.apart ops oj = true) →
   i ∈ Region.ready md ops listed → YieldsIf P ops (fun w => ∃ L, AheadD md ops K i L ∧ S L w) oi v a → AheadD md ops K i listed → S listed w →
   wpAnyT P md ops Q S fuel (listed.setIfInBounds i true) (a.put oi.dst v) w → wpAnyT P md ops Q S (fuel + 1) listed a w := by
 intro fuel
 induction fuel with
 | zero =>
  intro listed a w _ hr hy hA hS H;refine ⟨fun h => (by rw [h] at hr; cases hr), fun j hj => ?_⟩
  by_cases hji : j = i
  ·subst hji;exact hy.wpOp hi ⟨listed, hA, hS⟩ ⟨(hinv _ _).2 hS, H⟩
  ·have := ready_mono hj hji;rw [H.1] at this
   cases this
 | succ fuel ih =>
  intro listed a w hfree hr hy hA hS H;refine ⟨fun h => (by rw [h] at hr; cases hr), fun j hj => ?_⟩
  by_cases hji : j = i
  ·subst hji;exact hy.wpOp hi ⟨listed, hA, hS⟩ ⟨(hinv _ _).2 hS, H⟩
  ·have h1 := H.2 j (ready_mono hj hji);obtain ⟨hjun, oj, hoj, hall⟩ := mem_ready.1 hj;have hon : ∀ e ∈ oj.after, Region.binds md e = true → listed.getD e.on true = true := fun e he hb => by
    have h1 := hall e he hb;rcases Nat.lt_or_ge e.on listed.size with h' | h'
    ·simpa [h'] using h1
    ·simp [Array.getElem?_eq_none h']
   have hnot : ∀ e ∈ oj.after, Region.binds md e = true → e.on ≠ i := fun e he hb heq => by
    have h1 := hall e he hb;have h0 := (mem_ready.1 hr).1;rw [heq] at h1;rcases Nat.lt_or_ge i listed.size with h' | h'
    ·simp [h'] at h0 h1;rw [h0] at h1
     cases h1
    ·simp [Array.getElem?_eq_none h'] at h1
   have h2 := wpOp_putIf hoj (hfree j oj hoj hji hjun hnot) (fun cs b => hsel i oi cs b hi) (fun cs b => hsel j oj cs b hoj) hQ hy h1;have hfree' : ∀ k ok, ops[k]? = some ok → k ≠ i → (listed.setIfInBounds j true).getD k true = false →
     (∀ e ∈ ok.after, Region.binds md e = true → e.on ≠ i) → oi.apart ops ok = true := fun k ok hk hki hun hno => by
    refine hfree k ok hk hki ?_ hno
    by_cases hjk : j = k
    ·subst hjk;exact hjun
    ·rw [getD_set_ne true hjk] at hun;exact hun
   have hA' : AheadD md ops K i (listed.setIfInBounds j true) := fun k => by
    by_cases hjk : j = k
    ·subst hjk;refine ⟨fun _ => ?_, fun _ => Or.inr fun ok hk => ?_⟩
     ·rcases Nat.lt_or_ge j listed.size with h' | h'
      ·simp [h']
      ·simp [Array.getElem?_eq_none, h']
     ·rw [hoj] at hk;injection hk with hk;subst hk;exact fun e he hb => ⟨hnot e he hb, getD_grow (hon e he hb)⟩
    ·rw [getD_set_ne true hjk];refine ⟨(hA k).1, fun h => ?_⟩;rcases (hA k).2 h with h | h
     ·exact .inl h
     ·exact .inr fun ok hk e he hb => ⟨(h ok hk e he hb).1, getD_grow (h ok hk e he hb).2⟩
   refine wpOp_mono (fun a' w' h3 => ?_) h2;have hS' : S (listed.setIfInBounds j true) w' := by
    have := h3.2.1;rw [Array.setIfInBounds_comm _ _ (Ne.symm hji)] at this;exact (hinv _ _).1 this
   refine ⟨hS', ih (listed.setIfInBounds j true) a' w' hfree' (ready_mono hr (Ne.symm hji)) h3.1 hA' hS' ?_⟩;rw [Array.setIfInBounds_comm _ _ hji];exact h3.2.2
def waitsFor (md : Region.Mode) (ops : Array Oper) (K : Array Bool) (i : Nat) : Nat → Nat → Bool
 | 0, _ => false
 | n + 1, t => !K.getD t true && ((ops[t]?).map fun o => o.after.any fun e => Region.binds md e && (e.on == i || waitsFor md ops K i n e.on)).getD false
theorem not_ahead {K L : Array Bool} {i : Nat} (hA : AheadD md ops K i L) : ∀ (n t : Nat), waitsFor md ops K i n t = true → L.getD t true = false
 | 0, _, h => by cases h
 | n + 1, t, h => by
  unfold waitsFor at h;rw [Bool.and_eq_true] at h;obtain ⟨h1, h2⟩ := h
  by_cases hL : L.getD t true = true
  ·exfalso
   rcases (hA t).2 hL with h3 | h3
   ·rw [h3] at h1
    cases h1
   ·cases ho : ops[t]? with
    | none => rw [ho] at h2; cases h2
    | some ot =>
     rw [ho] at h2;simp only [Option.map_some, Option.getD_some, Array.any_eq_true', Bool.and_eq_true] at h2;obtain ⟨e, he, hb, hon⟩ := h2;obtain ⟨h4, h5⟩ := h3 ot ho e he hb;rw [Bool.or_eq_true] at hon;rcases hon with hon | hon
     ·exact h4 (by simpa using hon)
     ·rw [not_ahead hA n e.on hon] at h5
      cases h5
  ·simpa using hL
def liveForD (md : Region.Mode) (ops : Array Oper) (F : List Span) (K : Array Bool) (i k : Nat) : Bool :=
 match F[k]? with
 | none => false
 | some x => x.pre.all (fun j => K.getD j true) && x.till.all fun t => waitsFor md ops K i ops.size t
theorem timed_useD {F : List Span} {K L : Array Bool} {i k : Nat} {x : Span} {w : World} (hk : F[k]? = some x) (hl : liveForD md ops F K i k = true) (hA : AheadD md ops K i L) (hS : Timed F L w) : x.fact w := by
 unfold liveForD at hl;simp only [hk, Bool.and_eq_true, List.all_eq_true] at hl;refine hS x (List.mem_of_getElem? hk) ?_ ?_
 ·rw [List.all_eq_true];intro j hj;exact (hA j).1 (hl.1 j hj)
 ·rw [List.all_eq_true];intro t ht;rw [not_ahead hA _ t (hl.2 t ht)]
  rfl
theorem timed_readD {F : List Span} {i : Nat} (k : Nat) {x : Span} {oi : Oper} {v : Value} {fuel : Nat} {listed : Array Bool} {a : Act} {w : World} (hi : ops[i]? = some oi)
  (hs : Region.noSelect ops = true) (hf : Region.free md ops listed i = true) (hr : (Region.ready md ops listed).contains i = true)
  (hQ : ∀ c a w, Q (.panic c) (a.put oi.dst v) w → Q (.panic c) a w) (hq : quietAt F i = true) (hw : Region.wanted oi (yielded ops a.tmps) = true) (hk : F[k]? = some x)
  (hl : liveForD md ops F listed i k = true) (hy : ∀ w, x.fact w → (execOp a.eval oi).run P w = .ok (.value v) w)
  (h : Timed F (listed.setIfInBounds i true) w → wpAnyT P md ops Q (Timed F) fuel (listed.setIfInBounds i true) (a.put oi.dst v) w) : Timed F listed w → wpAnyT P md ops Q (Timed F) (fuel + 1) listed a w := fun hS =>
 timed_firstD (K := listed) hi (Region.noSelect_spec hs) hQ (timed_inv hq) fuel listed a w (Region.free_spec hi hf) (by simpa using hr)
  (Or.inl ⟨hw, fun w ⟨L, hA, hT⟩ => hy w (timed_useD hk hl hA hT)⟩) (fun j => ⟨id, Or.inl⟩) hS (h ((timed_inv hq _ _).2 hS))
end
open Go.RowKit
section
variable {P : Program} {ops : Array Oper} {Q : Exit → Act → World → Prop} {md : Region.Mode} {S : Array Bool → World → Prop}
theorem timed_forks {l : List Nat} {fuel : Nat} {listed : Array Bool} {a : Act} {w : World} (hr : Region.ready md ops listed = l) (hl : l ≠ [])
  (h : ∀ k ∈ l, ∃ ok, ops[k]? = some ok ∧ ∀ K' : Act → World → Prop, Shut (∀ a w, S (listed.setIfInBounds k true) w → (S (listed.setIfInBounds k true) w → wpAnyT P md ops Q S fuel (listed.setIfInBounds k true) a w) → K' a w) →
   if Region.wanted ok (yielded ops a.tmps) = true then Oper.wp P ok a w K' Q else K' (a.put ok.dst undef) w) : S listed w → wpAnyT P md ops Q S (fuel + 1) listed a w := by
 intro _;refine ⟨fun h0 => (by rw [hr] at h0; exact absurd h0 hl), fun k hk => ?_⟩;rw [hr] at hk;obtain ⟨ok, ho, hs⟩ := h k hk;exact wpOp_step ho (fun K' hK => hs K' (fun a w hS hW => hK a w ⟨hS, hW hS⟩))
end
section
variable {G : Prop}
theorem cut_1_0 (F : World → Nat → Prop) {L : World → Nat → Prop} (h1 : (∀ (w : World) (g0 : Nat), F w g0  → L w g0 ) → G) (h2 : ∀ (w : World) (g0 : Nat), F w g0  → L w g0 ) : G := h1 h2
theorem cut_1_0_1 (F : World → Nat → Option Addr → Prop) {L : World → Nat → Option Addr → Prop} (h1 : (∀ (w : World) (g0 : Nat) (z0 : Option Addr), F w g0 z0 → L w g0 z0) → G) (h2 : ∀ (w : World) (g0 : Nat) (z0 : Option Addr), F w g0 z0 → L w g0 z0) : G := h1 h2
theorem cut_2_0_1 (F : World → Nat → Nat → Option Addr → Prop) {L : World → Nat → Nat → Option Addr → Prop} (h1 : (∀ (w : World) (g0 g1 : Nat) (z0 : Option Addr), F w g0 g1 z0 → L w g0 g1 z0) → G) (h2 : ∀ (w : World) (g0 g1 : Nat) (z0 : Option Addr), F w g0 g1 z0 → L w g0 g1 z0) : G := h1 h2
end
theorem fork_cons {p : Nat → Prop} {k : Nat} {l : List Nat} (h : p k) (r : ∀ j ∈ l, p j) : ∀ j ∈ k :: l, p j := List.forall_mem_cons.2 ⟨h, r⟩
theorem fork_nil {p : Nat → Prop} : ∀ j ∈ ([] : List Nat), p j := fun _ h => by cases h
theorem made_go {w0 w : World} (T : TypeId) (cs : Array Value) (OW : Only [] w0 w) :
  Only [] w (w.alloc (.cells cs T)) ∧ Only [] w0 (w.alloc (.cells cs T)) ∧ Blk (w.alloc (.cells cs T)) w.heap.size T cs ∧ w0.heap.size ≤ w.heap.size :=
 have OS : Only [] w (w.alloc (.cells cs T)) := (Only.refl [] w).alloc (.cells cs T)
 ⟨OS, OW.trans OS, Blk.made w T cs, OW.size⟩
end Go.Proofs.YtojpohmijlkagaaDoor
