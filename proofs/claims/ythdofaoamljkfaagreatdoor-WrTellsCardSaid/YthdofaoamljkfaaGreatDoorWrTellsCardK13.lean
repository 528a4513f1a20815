/- Parts. -/
import Derived.Test.YthdofaoamljkfaaGreatDoorWrTellsCardK12
set_option maxRecDepth 10000
set_option maxHeartbeats 16000000
set_option linter.unusedVariables false
set_option linter.unusedSimpArgs false
namespace Go.Proofs.YthdofaoamljkfaaGreatDoor
def keyStep (K : Nat) (o : Op4) : Nat := if o.wr = true then K ||| 2 ^ o.key.toNat else K
def keyM (l : List Op4) : Nat := l.foldl keyStep 0
theorem keyM_take {l : List Op4} {i : Nat} {o : Op4} (h : l[i]? = some o) : keyM (l.take (i + 1)) = keyStep (keyM (l.take i)) o := by
 unfold keyM;rw [List.take_add_one, h, List.foldl_append]
 rfl
def KeyOk (l : List Op4) : Prop := ∀ o ∈ l, 0 ≤ o.key ∧ o.key < 40
theorem keyOk_take {l : List Op4} (h : KeyOk l) (i : Nat) : KeyOk (l.take i) := fun o ho => h o (List.mem_of_mem_take ho)
theorem keyM_lt (l : List Op4) (h : KeyOk l) : keyM l < 18446744073709551616 := by
 suffices H : ∀ (l : List Op4) (K : Nat), KeyOk l → K < 2 ^ 64 → l.foldl keyStep K < 2 ^ 64 from H l 0 h (by decide)
 intro l
 induction l with
 | nil => intro K _ hK; exact hK
 | cons o l ih =>
  intro K h hK;refine ih _ (fun x hx => h x (List.mem_cons_of_mem _ hx)) ?_;unfold keyStep
  split
  ·refine Nat.or_lt_two_pow hK (Nat.pow_lt_pow_right (by decide) ?_);have := h o List.mem_cons_self;omega
  ·exact hK
theorem keyM_bit (l : List Op4) (h : KeyOk l) (k : Nat) : (keyM l).testBit k = (leftW (k : Int) l).isSome := by
 suffices H : ∀ (l : List Op4) (K : Nat) (acc : Option (Int × Int)), KeyOk l → K.testBit k = acc.isSome → (l.foldl keyStep K).testBit k = (l.foldl (fun acc o => if hitO (k : Int) o = true then some (o.vk, o.vn) else acc) acc).isSome from H l 0 none h (by simp)
 intro l
 induction l with
 | nil => intro K acc _ hK; exact hK
 | cons o l ih =>
  intro K acc h hK;refine ih _ _ (fun x hx => h x (List.mem_cons_of_mem _ hx)) ?_;have ho := h o List.mem_cons_self;unfold keyStep hitO
  cases hw : o.wr with
  | false => simpa [hw] using hK
  | true =>
   rw [if_pos rfl, Nat.testBit_or, hK, Nat.testBit_two_pow]
   by_cases hk : o.key = (k : Int)
   ·have : o.key.toNat = k := by omega
    simp [hk, hw]
   ·have : ¬ o.key.toNat = k := by omega
    simp [hk, this]
open Go.Lib hiding intOf
def lastR : List Op4 → List Op4
 | [] => []
 | o :: r => lastR r ++ if o.wr = true ∧ leftW o.key r = none then [o] else []
theorem leftW_cons (key : Int) (o : Op4) (r : List Op4) : leftW key (o :: r) = match leftW key r with
  | some v => some v
  | none => if hitO key o = true then some (o.vk, o.vn) else none := by
 have H : ∀ (r : List Op4) (acc : Option (Int × Int)), r.foldl (fun acc o => if hitO key o = true then some (o.vk, o.vn) else acc) acc = match leftW key r with
   | some v => some v
   | none => acc := by
  intro r
  induction r with
  | nil => intro acc; rfl
  | cons x r ih =>
   intro acc;have e : leftW key (x :: r) = r.foldl (fun acc o => if hitO key o = true then some (o.vk, o.vn) else acc) (if hitO key x = true then some (x.vk, x.vn) else none) := rfl;rw [e, ih, List.foldl_cons, ih]
   cases leftW key r with
   | some v => rfl
   | none =>
    dsimp only
    by_cases hx : hitO key x = true
    ·rw [if_pos hx, if_pos hx]
    ·rw [if_neg hx, if_neg hx]
 have e : leftW key (o :: r) = r.foldl (fun acc o => if hitO key o = true then some (o.vk, o.vn) else acc) (if hitO key o = true then some (o.vk, o.vn) else none) := rfl;rw [e, H]
theorem lastR_left : ∀ (l : List Op4), ∀ o ∈ lastR l, o.wr = true ∧ leftW o.key l = some (o.vk, o.vn)
 | [], o, h => by cases h
 | x :: r, o, h => by
  unfold lastR at h;rcases List.mem_append.1 h with h1 | h1
  ·obtain ⟨e1, e2⟩ := lastR_left r o h1;refine ⟨e1, ?_⟩;rw [leftW_cons, e2]
  ·by_cases hx : x.wr = true ∧ leftW x.key r = none
   ·rw [if_pos hx] at h1;obtain rfl := List.mem_singleton.1 h1;refine ⟨hx.1, ?_⟩;rw [leftW_cons, hx.2];have : hitO o.key o = true := by unfold hitO; simp [hx.1]
    dsimp only;rw [if_pos this]
   ·rw [if_neg hx] at h1; cases h1
theorem lastR_of : ∀ (l : List Op4) (key : Int) (v : Int × Int), leftW key l = some v → ∃ o ∈ lastR l, o.key = key ∧ (o.vk, o.vn) = v
 | [], key, v, h => by cases h
 | x :: r, key, v, h => by
  rw [leftW_cons] at h
  cases hr : leftW key r with
  | some u =>
   rw [hr] at h;obtain ⟨o, ho, h1⟩ := lastR_of r key u hr;refine ⟨o, List.mem_append_left _ ho, h1.1, ?_⟩;rw [h1.2];exact Option.some.inj h
  | none =>
   rw [hr] at h;dsimp only at h
   by_cases hx : hitO key x = true
   ·rw [if_pos hx] at h;have h2 : x.wr = true ∧ x.key = key := by unfold hitO at hx; simpa using hx
    refine ⟨x, ?_, h2.2, Option.some.inj h⟩;unfold lastR;rw [if_pos ⟨h2.1, by rw [h2.2]; exact hr⟩];exact List.mem_append_right _ List.mem_cons_self
   ·rw [if_neg hx] at h; cases h
theorem lastR_apart : ∀ (l : List Op4), (lastR l).Pairwise fun a b => a.key ≠ b.key
 | [] => List.Pairwise.nil
 | x :: r => by
  unfold lastR;rw [List.pairwise_append];refine ⟨lastR_apart r, ?_, ?_⟩
  ·by_cases hx : x.wr = true ∧ leftW x.key r = none
   ·rw [if_pos hx]; exact List.pairwise_singleton _ _
   ·rw [if_neg hx]; exact List.Pairwise.nil
  ·intro a ha b hb
   by_cases hx : x.wr = true ∧ leftW x.key r = none
   ·rw [if_pos hx] at hb;obtain rfl := List.mem_singleton.1 hb;intro e;have := (lastR_left r a ha).2;rw [e, hx.2] at this
    cases this
   ·rw [if_neg hx] at hb; cases hb
theorem lastR_le : ∀ (l : List Op4), (lastR l).length ≤ l.length
 | [] => Nat.le_refl _
 | x :: r => by
  unfold lastR;have := lastR_le r;rw [List.length_append, List.length_cons]
  by_cases hx : x.wr = true ∧ leftW x.key r = none
  ·rw [if_pos hx, List.length_singleton]; omega
  ·rw [if_neg hx, List.length_nil]; omega
theorem lastR_mem : ∀ (l : List Op4), ∀ o ∈ lastR l, o ∈ l
 | [], o, h => by cases h
 | x :: r, o, h => by
  unfold lastR at h;rcases List.mem_append.1 h with h1 | h1
  ·exact List.mem_cons_of_mem _ (lastR_mem r o h1)
  ·by_cases hx : x.wr = true ∧ leftW x.key r = none
   ·rw [if_pos hx] at h1;rw [List.mem_singleton.1 h1]; exact List.mem_cons_self
   ·rw [if_neg hx] at h1; cases h1
def keyR (l : List Op4) : Nat := keyM l.reverse
theorem keyOk_rev {l : List Op4} (h : KeyOk l) : KeyOk l.reverse := fun o ho => h o (List.mem_reverse.1 ho)
theorem keyR_lt (l : List Op4) (h : KeyOk l) : keyR l < 18446744073709551616 := keyM_lt _ (keyOk_rev h)
theorem left_none {key : Int} {l : List Op4} : (leftW key l).isSome = true ↔ ∃ o ∈ l, hitO key o = true := by
 constructor
 ·intro h
  cases hl : leftW key l with
  | none => rw [hl] at h; cases h
  | some v => exact leftW_some hl
 ·rintro ⟨o, ho, hh⟩
  cases hl : leftW key l with
  | some v => rfl
  | none =>
   exfalso
   induction l with
   | nil => cases ho
   | cons x r ih =>
    rw [leftW_cons] at hl
    cases hr : leftW key r with
    | some v => rw [hr] at hl; cases hl
    | none =>
     rw [hr] at hl;dsimp only at hl;rcases List.mem_cons.1 ho with rfl | h1
     ·rw [if_pos hh] at hl; cases hl
     ·exact ih h1 hr
theorem keyR_bit (l : List Op4) (h : KeyOk l) (k : Nat) : (keyR l).testBit k = (leftW (k : Int) l).isSome := by
 unfold keyR;rw [keyM_bit _ (keyOk_rev h), Bool.eq_iff_iff, left_none, left_none]
 constructor
 ·rintro ⟨o, ho, e⟩; exact ⟨o, List.mem_reverse.1 ho, e⟩
 ·rintro ⟨o, ho, e⟩; exact ⟨o, List.mem_reverse.2 ho, e⟩
theorem rds_read {h : Hst} (hm : mayH h = true) {i k : Nat} {t : Tx} {o : Op4} (ht : h.l[i]? = some t) (ho : t.ops[k]? = some o) (hb : outAt t.ops k o = true) : readO h (i : Int) (k : Int) = some (t, o) := by
 have hw : o.wr = false := by unfold outAt at hb; rw [Bool.and_eq_true] at hb; simpa using hb.1
 exact read_some (opAt_yes (txAt_yes hm ht) ho) hw
theorem outer_out {h : Hst} (hm : mayH h = true) {i k : Nat} {t : Tx} {o : Op4} (ht : h.l[i]? = some t) (ho : t.ops[k]? = some o) : outerB h (i : Int) (k : Int) = outAt t.ops k o := by
 unfold outerB;rw [opAt_yes (txAt_yes hm ht) ho]
 rfl
theorem whole_may {h : Hst} (hw : wholeB h = true) : mayH h = true := by
 unfold wholeB at hw;rw [Bool.and_eq_true] at hw;exact hw.1
theorem whole_f {h : Hst} (hw : wholeB h = true) : ∀ t ∈ h.l, t.f = 1 ∨ t.f = 2 ∨ t.f = 3 := fun t ht => by
 have hm := whole_may hw;unfold mayH at hm;simp only [Bool.and_eq_true] at hm;have h1 := hm.2.2.1;unfold txsB at h1;simp only [Bool.and_eq_true] at h1;have h2 := List.all_eq_true.1 h1.2.1 t ht;unfold txB at h2;simp only [Bool.and_eq_true] at h2;have h3 : 1 ≤ t.f ∧ t.f ≤ 3 := of_decide_eq_true h2.2.1;omega
def choA (l : List Tx) (i : Nat) (o : Op4) : List Int := headW (o.vk, o.vn) ++ (leavs o.key (o.vk, o.vn) l).filter fun z => decide (z ≠ (i : Int))
theorem cho_at {h : Hst} (hw : wholeB h = true) (hf : ∀ t ∈ h.l, t.f = 1 ∨ t.f = 2 ∨ t.f = 3) {i k : Nat} {t : Tx} {o : Op4} (ht : h.l[i]? = some t) (ho : t.ops[k]? = some o) (hb : outAt t.ops k o = true) :
  wrOf h (i : Int) (k : Int) = choA h.l i o := by
 rw [wrOf_some (rds_read (whole_may hw) ht ho hb)];unfold choA whoL leavs
 congr 1
 exact leavs_filter o.key (o.vk, o.vn) (i : Int) (whole_kinds hw (List.mem_of_getElem? ht) (List.mem_of_getElem? ho)) h.l 0 (whole_fates hw hf)
theorem choL_at {h : Hst} (hw : wholeB h = true) (hf : ∀ t ∈ h.l, t.f = 1 ∨ t.f = 2 ∨ t.f = 3) {q : Nat} {p : Int × Int} (hp : (rdsL h.l)[q]? = some p) :
  ∃ (i k : Nat) (t : Tx) (o : Op4), p = ((i : Int), (k : Int)) ∧ h.l[i]? = some t ∧ t.f = 1 ∧ t.ops[k]? = some o ∧ outAt t.ops k o = true ∧ (choL h)[q]? = some (choA h.l i o) := by
 obtain ⟨i, t, k, o, rfl, h1, h2, h3, h4⟩ := rdsL_mem (List.mem_of_getElem? hp);refine ⟨i, k, t, o, rfl, h1, h2, h3, h4, ?_⟩;unfold choL;rw [List.getElem?_map, hp];exact congrArg some (cho_at hw hf h1 h3 h4)
theorem choL_len (h : Hst) : (choL h).length = (rdsL h.l).length := by unfold choL; rw [List.length_map]
def comT (t : Tx) : Bool := decide (t.f = 1)
def outZ (l : List Tx) (z : Int) : List (Int × Int) := match l[z.toNat]? with
 | some t => (outI t.ops).map fun k => (z, k)
 | none => []
theorem rds_which_upto (l : List Tx) : ∀ k, k ≤ l.length → rdsL (l.take k) = (whichL comT (l.take k)).flatMap (outZ l)
 | 0, _ => rfl
 | k + 1, hk => by
  obtain ⟨t, ht⟩ : ∃ t, l[k]? = some t := ⟨_, List.getElem?_eq_getElem (by omega)⟩;rw [rdsL_take ht, rds_which_upto l k (by omega), which_take ht, List.flatMap_append]
  congr 1
  unfold outT comT
  by_cases h1 : t.f = 1
  ·rw [if_pos h1, if_pos (decide_eq_true h1)];unfold outZ;simp [ht]
  ·rw [if_neg h1, if_neg (by simpa using h1)]
   rfl
theorem rds_which (l : List Tx) : rdsL l = (whichL comT l).flatMap (outZ l) := by
 have := rds_which_upto l l.length (Nat.le_refl _)
 rwa [List.take_of_length_le (Nat.le_refl _)] at this
def rdsQ (l : List Tx) (q : Nat) : List (Int × Int) := ((whichL comT l).take q).flatMap (outZ l)
theorem rdsQ_all (l : List Tx) {q : Nat} (h : (whichL comT l).length ≤ q) : rdsQ l q = rdsL l := by
 unfold rdsQ;rw [List.take_of_length_le h, rds_which]
theorem rdsQ_step {l : List Tx} {q i : Nat} {t : Tx} (h : (whichL comT l)[q]? = some (i : Int)) (ht : l[i]? = some t) : rdsQ l (q + 1) = rdsQ l q ++ (outI t.ops).map fun k => ((i : Int), k) := by
 unfold rdsQ;rw [List.take_add_one, h, Option.toList_some, List.flatMap_append]
 congr 1
 unfold outZ;simp [ht]
theorem rdsQ_le {l : List Tx} (hl : ∀ t ∈ l, t.ops.length ≤ 20) (q : Nat) : (rdsQ l q).length ≤ q * 20 := by
 unfold rdsQ;generalize hL : (whichL comT l).take q = L;have hq : L.length ≤ q := by rw [← hL, List.length_take]; omega
 clear hL
 suffices H : (L.flatMap (outZ l)).length ≤ L.length * 20 by
  have := Nat.mul_le_mul_right 20 hq;omega
 clear hq
 induction L with
 | nil => simp
 | cons z L ih =>
  rw [List.flatMap_cons, List.length_append, List.length_cons];have : (outZ l z).length ≤ 20 := by
   unfold outZ
   split
   ·rename_i t ht
    rw [List.length_map];have h1 := outN_le t.ops t.ops.length;rw [outN_all t.ops (Nat.le_refl _)] at h1;exact Nat.le_trans h1 (hl t (List.mem_of_getElem? ht))
   ·simp
  omega
def lvAt (l : List Tx) (key : Int) (v : Int × Int) (z : Int) : Bool := match l[z.toNat]? with
 | some t => decide (leftW key t.ops = some v)
 | none => false
theorem leavs_which_upto (l : List Tx) (key : Int) (v : Int × Int) : ∀ k, k ≤ l.length → leavs key v (l.take k) = (whichL comT (l.take k)).filter (lvAt l key v)
 | 0, _ => rfl
 | k + 1, hk => by
  obtain ⟨t, ht⟩ : ∃ t, l[k]? = some t := ⟨_, List.getElem?_eq_getElem (by omega)⟩;rw [leavs_take ht, leavs_which_upto l key v k (by omega), which_take ht, List.filter_append]
  congr 1
  unfold comT
  by_cases h1 : t.f = 1
  ·rw [if_pos (decide_eq_true h1)]
   by_cases h2 : leftW key t.ops = some v
   ·rw [if_pos ⟨h1, h2⟩];unfold lvAt;simp [ht, h2]
   ·rw [if_neg (fun c => h2 c.2)];unfold lvAt;simp [ht, h2]
  ·rw [if_neg (fun c => h1 c.1), if_neg (by simpa using h1)]
   rfl
theorem leavs_which (l : List Tx) (key : Int) (v : Int × Int) : leavs key v l = (whichL comT l).filter (lvAt l key v) := by
 have := leavs_which_upto l key v l.length (Nat.le_refl _)
 rwa [List.take_of_length_le (Nat.le_refl _)] at this
def gaQ (l : List Tx) (q : Nat) (key : Int) (v : Int × Int) : List Int := ((whichL comT l).take q).filter (lvAt l key v)
theorem gaQ_all (l : List Tx) {q : Nat} (h : (whichL comT l).length ≤ q) (key : Int) (v : Int × Int) : gaQ l q key v = leavs key v l := by
 unfold gaQ;rw [List.take_of_length_le h, leavs_which]
theorem gaQ_len (l : List Tx) (q : Nat) (key : Int) (v : Int × Int) : (gaQ l q key v).length ≤ q := by
 unfold gaQ;refine Nat.le_trans (List.length_filter_le _ _) ?_;rw [List.length_take];omega
def gaJ (l : List Tx) (q : Nat) (i : Nat) (L : List Op4) (j : Nat) (key : Int) (v : Int × Int) : List Int := gaQ l q key v ++ if ∃ o ∈ L.take j, o.key = key ∧ (o.vk, o.vn) = v then [(i : Int)] else []
theorem gaJ_zero (l : List Tx) (q i : Nat) (L : List Op4) (key : Int) (v : Int × Int) : gaJ l q i L 0 key v = gaQ l q key v := by
 unfold gaJ;simp
theorem gaJ_len (l : List Tx) (q i : Nat) (L : List Op4) (j : Nat) (key : Int) (v : Int × Int) : (gaJ l q i L j key v).length ≤ q + 1 := by
 unfold gaJ;have := gaQ_len l q key v;rw [List.length_append]
 split <;> simp <;> omega
theorem gaJ_all {l : List Tx} {q i : Nat} {t : Tx} (h : (whichL comT l)[q]? = some (i : Int)) (ht : l[i]? = some t) {j : Nat} (hj : (lastR t.ops).length ≤ j) (key : Int) (v : Int × Int) : gaJ l q i (lastR t.ops) j key v = gaQ l (q + 1) key v := by
 unfold gaJ gaQ;rw [List.take_add_one, h, Option.toList_some, List.filter_append, List.take_of_length_le hj]
 congr 1
 by_cases hp : leftW key t.ops = some v
 ·rw [if_pos (lastR_of _ _ _ hp)];unfold lvAt;simp [ht, hp]
 ·rw [if_neg]
  ·unfold lvAt;simp [ht, hp]
  ·rintro ⟨o, ho, e1, e2⟩
   apply hp
   have := (lastR_left _ o ho).2
   rwa [e1, e2] at this
theorem gaJ_step {l : List Tx} {q i j : Nat} {t : Tx} {o : Op4} (ho : (lastR t.ops)[j]? = some o) (key : Int) (v : Int × Int) :
  gaJ l q i (lastR t.ops) (j + 1) key v = if o.key = key ∧ (o.vk, o.vn) = v then gaJ l q i (lastR t.ops) j key v ++ [(i : Int)] else gaJ l q i (lastR t.ops) j key v := by
 have ht : (lastR t.ops).take (j + 1) = (lastR t.ops).take j ++ [o] := by rw [List.take_add_one, ho]; rfl
 unfold gaJ;rw [ht]
 by_cases hp : o.key = key ∧ (o.vk, o.vn) = v
 ·rw [if_pos hp];have h1 : ¬ ∃ x ∈ (lastR t.ops).take j, x.key = key ∧ (x.vk, x.vn) = v := by
   rintro ⟨x, hx, e1, -⟩;have hA := lastR_apart t.ops;have e : lastR t.ops = (lastR t.ops).take j ++ (lastR t.ops).drop j := (List.take_append_drop _ _).symm;rw [e, List.pairwise_append] at hA;refine hA.2.2 x hx o ?_ (e1.trans hp.1.symm);rw [drop_cons ho];exact List.mem_cons_self
  rw [if_pos ⟨o, List.mem_append_right _ List.mem_cons_self, hp⟩, if_neg h1, List.append_nil]
 ·rw [if_neg hp]
  congr 1
  have : (∃ x ∈ (lastR t.ops).take j ++ [o], x.key = key ∧ (x.vk, x.vn) = v) ↔ ∃ x ∈ (lastR t.ops).take j, x.key = key ∧ (x.vk, x.vn) = v := by
   constructor
   ·rintro ⟨x, hx, e⟩;rcases List.mem_append.1 hx with h2 | h2
    ·exact ⟨x, h2, e⟩
    ·rw [List.mem_singleton.1 h2] at e; exact absurd e hp
   ·rintro ⟨x, hx, e⟩; exact ⟨x, List.mem_append_left _ hx, e⟩
  simp only [this]
def nilW (vk : Int) : List Int := if vk = 0 then [-1] else []
theorem filter_step {α : Type} (p : α → Bool) {l : List α} {k : Nat} {z : α} (h : l[k]? = some z) : (l.take (k + 1)).filter p = (l.take k).filter p ++ if p z = true then [z] else [] := by
 rw [List.take_add_one, h, Option.toList_some, List.filter_append]
 congr 1
 cases hp : p z <;> simp [hp]
theorem choA_nil (l : List Tx) (i : Nat) (o : Op4) (h0 : o.vk = 0 ∨ o.vk = 1) : choA l i o = nilW o.vk ++ (leavs o.key (o.vk, o.vn) l).filter fun z => decide (z ≠ (i : Int)) := by
 unfold choA
 congr 1
 unfold headW nilW;rcases h0 with h | h
 ·rw [if_neg (show ¬ (o.vk, o.vn).1 = 1 by dsimp only; omega), if_pos h]
 ·rw [if_pos (show (o.vk, o.vn).1 = 1 from h), if_neg (by omega)]
end Go.Proofs.YthdofaoamljkfaaGreatDoor
