/- Parts. -/
import Derived.Test.YthdofaoamljkfaaGreatDoorLaw24AllK11
set_option maxRecDepth 10000
set_option maxHeartbeats 16000000
set_option linter.unusedVariables false
set_option linter.unusedSimpArgs false
namespace Go.Proofs.YthdofaoamljkfaaGreatDoor
def keyStep (K : Nat) (o : Op4) : Nat := if o.wr = true then K ||| 2 ^ o.key.toNat else K
def keyM (l : List Op4) : Nat := l.foldl keyStep 0
theorem keyM_take {l : List Op4} {i : Nat} {o : Op4} (h : l[i]? = some o) : keyM (l.take (i + 1)) = keyStep (keyM (l.take i)) o := by
 unfold keyM;rw [List.take_add_one, h, List.foldl_append]
 rfl
def KeyOk (l : List Op4) : Prop := ∀ o ∈ l, 0 ≤ o.key ∧ o.key < 40
theorem keyOk_take {l : List Op4} (h : KeyOk l) (i : Nat) : KeyOk (l.take i) := fun o ho => h o (List.mem_of_mem_take ho)
theorem keyM_lt (l : List Op4) (h : KeyOk l) : keyM l < 18446744073709551616 := by
 suffices H : ∀ (l : List Op4) (K : Nat), KeyOk l → K < 2 ^ 64 → l.foldl keyStep K < 2 ^ 64 from H l 0 h (by decide)
 intro l
 induction l with
 | nil => intro K _ hK; exact hK
 | cons o l ih =>
  intro K h hK;refine ih _ (fun x hx => h x (List.mem_cons_of_mem _ hx)) ?_;unfold keyStep
  split
  ·refine Nat.or_lt_two_pow hK (Nat.pow_lt_pow_right (by decide) ?_);have := h o List.mem_cons_self;omega
  ·exact hK
theorem keyM_bit (l : List Op4) (h : KeyOk l) (k : Nat) : (keyM l).testBit k = (leftW (k : Int) l).isSome := by
 suffices H : ∀ (l : List Op4) (K : Nat) (acc : Option (Int × Int)), KeyOk l → K.testBit k = acc.isSome → (l.foldl keyStep K).testBit k = (l.foldl (fun acc o => if hitO (k : Int) o = true then some (o.vk, o.vn) else acc) acc).isSome from H l 0 none h (by simp)
 intro l
 induction l with
 | nil => intro K acc _ hK; exact hK
 | cons o l ih =>
  intro K acc h hK;refine ih _ _ (fun x hx => h x (List.mem_cons_of_mem _ hx)) ?_;have ho := h o List.mem_cons_self;unfold keyStep hitO
  cases hw : o.wr with
  | false => simpa [hw] using hK
  | true =>
   rw [if_pos rfl, Nat.testBit_or, hK, Nat.testBit_two_pow]
   by_cases hk : o.key = (k : Int)
   ·have : o.key.toNat = k := by omega
    simp [hk, hw]
   ·have : ¬ o.key.toNat = k := by omega
    simp [hk, this]
open Go.Lib hiding intOf
def lastR : List Op4 → List Op4
 | [] => []
 | o :: r => lastR r ++ if o.wr = true ∧ leftW o.key r = none then [o] else []
theorem leftW_cons (key : Int) (o : Op4) (r : List Op4) : leftW key (o :: r) = match leftW key r with
  | some v => some v
  | none => if hitO key o = true then some (o.vk, o.vn) else none := by
 have H : ∀ (r : List Op4) (acc : Option (Int × Int)), r.foldl (fun acc o => if hitO key o = true then some (o.vk, o.vn) else acc) acc = match leftW key r with
   | some v => some v
   | none => acc := by
  intro r
  induction r with
  | nil => intro acc; rfl
  | cons x r ih =>
   intro acc;have e : leftW key (x :: r) = r.foldl (fun acc o => if hitO key o = true then some (o.vk, o.vn) else acc) (if hitO key x = true then some (x.vk, x.vn) else none) := rfl;rw [e, ih, List.foldl_cons, ih]
   cases leftW key r with
   | some v => rfl
   | none =>
    dsimp only
    by_cases hx : hitO key x = true
    ·rw [if_pos hx, if_pos hx]
    ·rw [if_neg hx, if_neg hx]
 have e : leftW key (o :: r) = r.foldl (fun acc o => if hitO key o = true then some (o.vk, o.vn) else acc) (if hitO key o = true then some (o.vk, o.vn) else none) := rfl;rw [e, H]
theorem lastR_left : ∀ (l : List Op4), ∀ o ∈ lastR l, o.wr = true ∧ leftW o.key l = some (o.vk, o.vn)
 | [], o, h => by cases h
 | x :: r, o, h => by
  unfold lastR at h;rcases List.mem_append.1 h with h1 | h1
  ·obtain ⟨e1, e2⟩ := lastR_left r o h1;refine ⟨e1, ?_⟩;rw [leftW_cons, e2]
  ·by_cases hx : x.wr = true ∧ leftW x.key r = none
   ·rw [if_pos hx] at h1;obtain rfl := List.mem_singleton.1 h1;refine ⟨hx.1, ?_⟩;rw [leftW_cons, hx.2];have : hitO o.key o = true := by unfold hitO; simp [hx.1]
    dsimp only;rw [if_pos this]
   ·rw [if_neg hx] at h1; cases h1
theorem lastR_of : ∀ (l : List Op4) (key : Int) (v : Int × Int), leftW key l = some v → ∃ o ∈ lastR l, o.key = key ∧ (o.vk, o.vn) = v
 | [], key, v, h => by cases h
 | x :: r, key, v, h => by
  rw [leftW_cons] at h
  cases hr : leftW key r with
  | some u =>
   rw [hr] at h;obtain ⟨o, ho, h1⟩ := lastR_of r key u hr;refine ⟨o, List.mem_append_left _ ho, h1.1, ?_⟩;rw [h1.2];exact Option.some.inj h
  | none =>
   rw [hr] at h;dsimp only at h
   by_cases hx : hitO key x = true
   ·rw [if_pos hx] at h;have h2 : x.wr = true ∧ x.key = key := by unfold hitO at hx; simpa using hx
    refine ⟨x, ?_, h2.2, Option.some.inj h⟩;unfold lastR;rw [if_pos ⟨h2.1, by rw [h2.2]; exact hr⟩];exact List.mem_append_right _ List.mem_cons_self
   ·rw [if_neg hx] at h; cases h
theorem lastR_apart : ∀ (l : List Op4), (lastR l).Pairwise fun a b => a.key ≠ b.key
 | [] => List.Pairwise.nil
 | x :: r => by
  unfold lastR;rw [List.pairwise_append];refine ⟨lastR_apart r, ?_, ?_⟩
  ·by_cases hx : x.wr = true ∧ leftW x.key r = none
   ·rw [if_pos hx]; exact List.pairwise_singleton _ _
   ·rw [if_neg hx]; exact List.Pairwise.nil
  ·intro a ha b hb
   by_cases hx : x.wr = true ∧ leftW x.key r = none
   ·rw [if_pos hx] at hb;obtain rfl := List.mem_singleton.1 hb;intro e;have := (lastR_left r a ha).2;rw [e, hx.2] at this
    cases this
   ·rw [if_neg hx] at hb; cases hb
theorem lastR_le : ∀ (l : List Op4), (lastR l).length ≤ l.length
 | [] => Nat.le_refl _
 | x :: r => by
  unfold lastR;have := lastR_le r;rw [List.length_append, List.length_cons]
  by_cases hx : x.wr = true ∧ leftW x.key r = none
  ·rw [if_pos hx, List.length_singleton]; omega
  ·rw [if_neg hx, List.length_nil]; omega
theorem lastR_mem : ∀ (l : List Op4), ∀ o ∈ lastR l, o ∈ l
 | [], o, h => by cases h
 | x :: r, o, h => by
  unfold lastR at h;rcases List.mem_append.1 h with h1 | h1
  ·exact List.mem_cons_of_mem _ (lastR_mem r o h1)
  ·by_cases hx : x.wr = true ∧ leftW x.key r = none
   ·rw [if_pos hx] at h1;rw [List.mem_singleton.1 h1]; exact List.mem_cons_self
   ·rw [if_neg hx] at h1; cases h1
def keyR (l : List Op4) : Nat := keyM l.reverse
theorem keyOk_rev {l : List Op4} (h : KeyOk l) : KeyOk l.reverse := fun o ho => h o (List.mem_reverse.1 ho)
theorem keyR_lt (l : List Op4) (h : KeyOk l) : keyR l < 18446744073709551616 := keyM_lt _ (keyOk_rev h)
theorem left_none {key : Int} {l : List Op4} : (leftW key l).isSome = true ↔ ∃ o ∈ l, hitO key o = true := by
 constructor
 ·intro h
  cases hl : leftW key l with
  | none => rw [hl] at h; cases h
  | some v => exact leftW_some hl
 ·rintro ⟨o, ho, hh⟩
  cases hl : leftW key l with
  | some v => rfl
  | none =>
   exfalso
   induction l with
   | nil => cases ho
   | cons x r ih =>
    rw [leftW_cons] at hl
    cases hr : leftW key r with
    | some v => rw [hr] at hl; cases hl
    | none =>
     rw [hr] at hl;dsimp only at hl;rcases List.mem_cons.1 ho with rfl | h1
     ·rw [if_pos hh] at hl; cases hl
     ·exact ih h1 hr
theorem keyR_bit (l : List Op4) (h : KeyOk l) (k : Nat) : (keyR l).testBit k = (leftW (k : Int) l).isSome := by
 unfold keyR;rw [keyM_bit _ (keyOk_rev h), Bool.eq_iff_iff, left_none, left_none]
 constructor
 ·rintro ⟨o, ho, e⟩; exact ⟨o, List.mem_reverse.1 ho, e⟩
 ·rintro ⟨o, ho, e⟩; exact ⟨o, List.mem_reverse.2 ho, e⟩
theorem rds_read {h : Hst} (hm : mayH h = true) {i k : Nat} {t : Tx} {o : Op4} (ht : h.l[i]? = some t) (ho : t.ops[k]? = some o) (hb : outAt t.ops k o = true) : readO h (i : Int) (k : Int) = some (t, o) := by
 have hw : o.wr = false := by unfold outAt at hb; rw [Bool.and_eq_true] at hb; simpa using hb.1
 exact read_some (opAt_yes (txAt_yes hm ht) ho) hw
theorem outer_out {h : Hst} (hm : mayH h = true) {i k : Nat} {t : Tx} {o : Op4} (ht : h.l[i]? = some t) (ho : t.ops[k]? = some o) : outerB h (i : Int) (k : Int) = outAt t.ops k o := by
 unfold outerB;rw [opAt_yes (txAt_yes hm ht) ho]
 rfl
theorem whole_may {h : Hst} (hw : wholeB h = true) : mayH h = true := by
 unfold wholeB at hw;rw [Bool.and_eq_true] at hw;exact hw.1
theorem whole_f {h : Hst} (hw : wholeB h = true) : ∀ t ∈ h.l, t.f = 1 ∨ t.f = 2 ∨ t.f = 3 := fun t ht => by
 have hm := whole_may hw;unfold mayH at hm;simp only [Bool.and_eq_true] at hm;have h1 := hm.2.2.1;unfold txsB at h1;simp only [Bool.and_eq_true] at h1;have h2 := List.all_eq_true.1 h1.2.1 t ht;unfold txB at h2;simp only [Bool.and_eq_true] at h2;have h3 : 1 ≤ t.f ∧ t.f ≤ 3 := of_decide_eq_true h2.2.1;omega
def choA (l : List Tx) (i : Nat) (o : Op4) : List Int := headW (o.vk, o.vn) ++ (leavs o.key (o.vk, o.vn) l).filter fun z => decide (z ≠ (i : Int))
theorem cho_at {h : Hst} (hw : wholeB h = true) (hf : ∀ t ∈ h.l, t.f = 1 ∨ t.f = 2 ∨ t.f = 3) {i k : Nat} {t : Tx} {o : Op4} (ht : h.l[i]? = some t) (ho : t.ops[k]? = some o) (hb : outAt t.ops k o = true) :
  wrOf h (i : Int) (k : Int) = choA h.l i o := by
 rw [wrOf_some (rds_read (whole_may hw) ht ho hb)];unfold choA whoL leavs
 congr 1
 exact leavs_filter o.key (o.vk, o.vn) (i : Int) (whole_kinds hw (List.mem_of_getElem? ht) (List.mem_of_getElem? ho)) h.l 0 (whole_fates hw hf)
theorem choL_at {h : Hst} (hw : wholeB h = true) (hf : ∀ t ∈ h.l, t.f = 1 ∨ t.f = 2 ∨ t.f = 3) {q : Nat} {p : Int × Int} (hp : (rdsL h.l)[q]? = some p) :
  ∃ (i k : Nat) (t : Tx) (o : Op4), p = ((i : Int), (k : Int)) ∧ h.l[i]? = some t ∧ t.f = 1 ∧ t.ops[k]? = some o ∧ outAt t.ops k o = true ∧ (choL h)[q]? = some (choA h.l i o) := by
 obtain ⟨i, t, k, o, rfl, h1, h2, h3, h4⟩ := rdsL_mem (List.mem_of_getElem? hp);refine ⟨i, k, t, o, rfl, h1, h2, h3, h4, ?_⟩;unfold choL;rw [List.getElem?_map, hp];exact congrArg some (cho_at hw hf h1 h3 h4)
theorem choL_len (h : Hst) : (choL h).length = (rdsL h.l).length := by unfold choL; rw [List.length_map]
theorem zip_nodup {α : Type} (p : α × Nat → Bool) : ∀ (l : List α) (n : Nat), (((l.zipIdx n).filter p).map fun x => (x.2 : Int)).Nodup ∧ ∀ z ∈ ((l.zipIdx n).filter p).map (fun x => (x.2 : Int)), (n : Int) ≤ z
 | [], n => ⟨List.Pairwise.nil, fun z hz => by cases hz⟩
 | a :: r, n => by
  obtain ⟨h1, h2⟩ := zip_nodup p r (n + 1);rw [List.zipIdx_cons, List.filter_cons]
  by_cases hp : p (a, n) = true
  ·rw [if_pos hp, List.map_cons];refine ⟨List.nodup_cons.2 ⟨fun c => ?_, h1⟩, fun z hz => ?_⟩
   ·have := h2 _ c;dsimp only at this;omega
   ·rcases List.mem_cons.1 hz with rfl | hz
    ·exact Int.le_refl _
    ·have := h2 z hz;omega
  ·rw [if_neg hp];exact ⟨h1, fun z hz => by have := h2 z hz; omega⟩
theorem wrOf_nodup (h : Hst) (a b : Int) : (wrOf h a b).Nodup := by
 unfold wrOf
 split
 ·rename_i x hx
  obtain ⟨h1, h2⟩ := zip_nodup (fun x1 : Tx × Nat => fitsO (x.2.vk, x.2.vn) (forT a x.2.key x1.2 x1.1)) h.l 0;unfold headW whoL
  by_cases hk : x.2.vk = 1
  ·rw [if_pos hk]; exact h1
  ·rw [if_neg hk];refine List.nodup_cons.2 ⟨fun c => ?_, h1⟩;have := h2 _ c;omega
 ·exact List.nodup_nil
theorem choL_nodup {h : Hst} : ∀ vs ∈ choL h, vs.Nodup := fun vs hv => by
 unfold choL at hv;obtain ⟨p, -, rfl⟩ := List.mem_map.1 hv;exact wrOf_nodup h p.1 p.2
theorem maps_next {h : Hst} (hE : ∀ vs ∈ choL h, vs ≠ []) {i : Nat} {m : List Int} (hm : (prodL (choL h))[i]? = some m) : upL 0 (choL h) m = (prodL (choL h))[i + 1]? := prodL_goes (d := 0) (fun vs hv => ⟨hE vs hv, choL_nodup vs hv⟩) i m hm
theorem maps_first {h : Hst} (hE : ∀ vs ∈ choL h, vs ≠ []) : (prodL (choL h))[0]? = some (headsL 0 (choL h)) := prodL_zero hE
theorem prod_none : ∀ {c : List (List Int)}, (∃ vs ∈ c, vs = []) → prodL c = []
 | [], ⟨_, h, _⟩ => by cases h
 | vs :: r, ⟨us, h, e⟩ => by
  unfold prodL;rcases List.mem_cons.1 h with rfl | h1
  ·rw [e]; rfl
  ·rw [prod_none ⟨us, h1, e⟩]
   induction vs with
   | nil => rfl
   | cons v vs ih => rw [List.flatMap_cons, List.map_nil, List.nil_append]; exact ih (by simp [h1])
theorem cnt_zero {c : List (List Int)} (h : ∃ vs ∈ c, vs = []) : cntM c = 0 := by rw [cntM_prod _ c rfl, prod_none h]; rfl
theorem all_few {c : List (List Int)} (h : cntM c ≤ 300) : allM 400 c = prodL c ∧ (prodL c).length = cntM c := by
 have e := cntM_prod _ c rfl;have h1 : (prodL c).length = cntM c := by omega
 refine ⟨?_, h1⟩;rw [allM_is 400 (by decide) _ c rfl];exact List.take_of_length_le (by omega)
theorem all_one {c : List (List Int)} : allM 1 c = if ∃ vs ∈ c, vs = [] then [] else [headsL 0 c] := by
 rw [allM_is 1 (by decide) _ c rfl]
 split
 ·rename_i hE
  rw [prod_none hE]; rfl
 ·rename_i hE
  have h0 := prodL_zero (d := 0) (vals := c) (fun vs hv e => hE ⟨vs, hv, e⟩)
  cases hp : prodL c with
  | nil => rw [hp] at h0; cases h0
  | cons a r =>
   rw [hp] at h0;obtain rfl : a = headsL 0 c := by simpa using h0
   rfl
def comT (t : Tx) : Bool := decide (t.f = 1)
def outZ (l : List Tx) (z : Int) : List (Int × Int) := match l[z.toNat]? with
 | some t => (outI t.ops).map fun k => (z, k)
 | none => []
theorem rds_which_upto (l : List Tx) : ∀ k, k ≤ l.length → rdsL (l.take k) = (whichL comT (l.take k)).flatMap (outZ l)
 | 0, _ => rfl
 | k + 1, hk => by
  obtain ⟨t, ht⟩ : ∃ t, l[k]? = some t := ⟨_, List.getElem?_eq_getElem (by omega)⟩;rw [rdsL_take ht, rds_which_upto l k (by omega), which_take ht, List.flatMap_append]
  congr 1
  unfold outT comT
  by_cases h1 : t.f = 1
  ·rw [if_pos h1, if_pos (decide_eq_true h1)];unfold outZ;simp [ht]
  ·rw [if_neg h1, if_neg (by simpa using h1)]
   rfl
theorem rds_which (l : List Tx) : rdsL l = (whichL comT l).flatMap (outZ l) := by
 have := rds_which_upto l l.length (Nat.le_refl _)
 rwa [List.take_of_length_le (Nat.le_refl _)] at this
def rdsQ (l : List Tx) (q : Nat) : List (Int × Int) := ((whichL comT l).take q).flatMap (outZ l)
theorem rdsQ_all (l : List Tx) {q : Nat} (h : (whichL comT l).length ≤ q) : rdsQ l q = rdsL l := by
 unfold rdsQ;rw [List.take_of_length_le h, rds_which]
theorem rdsQ_step {l : List Tx} {q i : Nat} {t : Tx} (h : (whichL comT l)[q]? = some (i : Int)) (ht : l[i]? = some t) : rdsQ l (q + 1) = rdsQ l q ++ (outI t.ops).map fun k => ((i : Int), k) := by
 unfold rdsQ;rw [List.take_add_one, h, Option.toList_some, List.flatMap_append]
 congr 1
 unfold outZ;simp [ht]
theorem rdsQ_le {l : List Tx} (hl : ∀ t ∈ l, t.ops.length ≤ 20) (q : Nat) : (rdsQ l q).length ≤ q * 20 := by
 unfold rdsQ;generalize hL : (whichL comT l).take q = L;have hq : L.length ≤ q := by rw [← hL, List.length_take]; omega
 clear hL
 suffices H : (L.flatMap (outZ l)).length ≤ L.length * 20 by
  have := Nat.mul_le_mul_right 20 hq;omega
 clear hq
 induction L with
 | nil => simp
 | cons z L ih =>
  rw [List.flatMap_cons, List.length_append, List.length_cons];have : (outZ l z).length ≤ 20 := by
   unfold outZ
   split
   ·rename_i t ht
    rw [List.length_map];have h1 := outN_le t.ops t.ops.length;rw [outN_all t.ops (Nat.le_refl _)] at h1;exact Nat.le_trans h1 (hl t (List.mem_of_getElem? ht))
   ·simp
  omega
def lvAt (l : List Tx) (key : Int) (v : Int × Int) (z : Int) : Bool := match l[z.toNat]? with
 | some t => decide (leftW key t.ops = some v)
 | none => false
theorem leavs_which_upto (l : List Tx) (key : Int) (v : Int × Int) : ∀ k, k ≤ l.length → leavs key v (l.take k) = (whichL comT (l.take k)).filter (lvAt l key v)
 | 0, _ => rfl
 | k + 1, hk => by
  obtain ⟨t, ht⟩ : ∃ t, l[k]? = some t := ⟨_, List.getElem?_eq_getElem (by omega)⟩;rw [leavs_take ht, leavs_which_upto l key v k (by omega), which_take ht, List.filter_append]
  congr 1
  unfold comT
  by_cases h1 : t.f = 1
  ·rw [if_pos (decide_eq_true h1)]
   by_cases h2 : leftW key t.ops = some v
   ·rw [if_pos ⟨h1, h2⟩];unfold lvAt;simp [ht, h2]
   ·rw [if_neg (fun c => h2 c.2)];unfold lvAt;simp [ht, h2]
  ·rw [if_neg (fun c => h1 c.1), if_neg (by simpa using h1)]
   rfl
theorem leavs_which (l : List Tx) (key : Int) (v : Int × Int) : leavs key v l = (whichL comT l).filter (lvAt l key v) := by
 have := leavs_which_upto l key v l.length (Nat.le_refl _)
 rwa [List.take_of_length_le (Nat.le_refl _)] at this
def gaQ (l : List Tx) (q : Nat) (key : Int) (v : Int × Int) : List Int := ((whichL comT l).take q).filter (lvAt l key v)
theorem gaQ_all (l : List Tx) {q : Nat} (h : (whichL comT l).length ≤ q) (key : Int) (v : Int × Int) : gaQ l q key v = leavs key v l := by
 unfold gaQ;rw [List.take_of_length_le h, leavs_which]
theorem gaQ_len (l : List Tx) (q : Nat) (key : Int) (v : Int × Int) : (gaQ l q key v).length ≤ q := by
 unfold gaQ;refine Nat.le_trans (List.length_filter_le _ _) ?_;rw [List.length_take];omega
def gaJ (l : List Tx) (q : Nat) (i : Nat) (L : List Op4) (j : Nat) (key : Int) (v : Int × Int) : List Int := gaQ l q key v ++ if ∃ o ∈ L.take j, o.key = key ∧ (o.vk, o.vn) = v then [(i : Int)] else []
theorem gaJ_zero (l : List Tx) (q i : Nat) (L : List Op4) (key : Int) (v : Int × Int) : gaJ l q i L 0 key v = gaQ l q key v := by
 unfold gaJ;simp
theorem gaJ_len (l : List Tx) (q i : Nat) (L : List Op4) (j : Nat) (key : Int) (v : Int × Int) : (gaJ l q i L j key v).length ≤ q + 1 := by
 unfold gaJ;have := gaQ_len l q key v;rw [List.length_append]
 split <;> simp <;> omega
theorem gaJ_all {l : List Tx} {q i : Nat} {t : Tx} (h : (whichL comT l)[q]? = some (i : Int)) (ht : l[i]? = some t) {j : Nat} (hj : (lastR t.ops).length ≤ j) (key : Int) (v : Int × Int) : gaJ l q i (lastR t.ops) j key v = gaQ l (q + 1) key v := by
 unfold gaJ gaQ;rw [List.take_add_one, h, Option.toList_some, List.filter_append, List.take_of_length_le hj]
 congr 1
 by_cases hp : leftW key t.ops = some v
 ·rw [if_pos (lastR_of _ _ _ hp)];unfold lvAt;simp [ht, hp]
 ·rw [if_neg]
  ·unfold lvAt;simp [ht, hp]
  ·rintro ⟨o, ho, e1, e2⟩
   apply hp
   have := (lastR_left _ o ho).2
   rwa [e1, e2] at this
theorem gaJ_step {l : List Tx} {q i j : Nat} {t : Tx} {o : Op4} (ho : (lastR t.ops)[j]? = some o) (key : Int) (v : Int × Int) :
  gaJ l q i (lastR t.ops) (j + 1) key v = if o.key = key ∧ (o.vk, o.vn) = v then gaJ l q i (lastR t.ops) j key v ++ [(i : Int)] else gaJ l q i (lastR t.ops) j key v := by
 have ht : (lastR t.ops).take (j + 1) = (lastR t.ops).take j ++ [o] := by rw [List.take_add_one, ho]; rfl
 unfold gaJ;rw [ht]
 by_cases hp : o.key = key ∧ (o.vk, o.vn) = v
 ·rw [if_pos hp];have h1 : ¬ ∃ x ∈ (lastR t.ops).take j, x.key = key ∧ (x.vk, x.vn) = v := by
   rintro ⟨x, hx, e1, -⟩;have hA := lastR_apart t.ops;have e : lastR t.ops = (lastR t.ops).take j ++ (lastR t.ops).drop j := (List.take_append_drop _ _).symm;rw [e, List.pairwise_append] at hA;refine hA.2.2 x hx o ?_ (e1.trans hp.1.symm);rw [drop_cons ho];exact List.mem_cons_self
  rw [if_pos ⟨o, List.mem_append_right _ List.mem_cons_self, hp⟩, if_neg h1, List.append_nil]
 ·rw [if_neg hp]
  congr 1
  have : (∃ x ∈ (lastR t.ops).take j ++ [o], x.key = key ∧ (x.vk, x.vn) = v) ↔ ∃ x ∈ (lastR t.ops).take j, x.key = key ∧ (x.vk, x.vn) = v := by
   constructor
   ·rintro ⟨x, hx, e⟩;rcases List.mem_append.1 hx with h2 | h2
    ·exact ⟨x, h2, e⟩
    ·rw [List.mem_singleton.1 h2] at e; exact absurd e hp
   ·rintro ⟨x, hx, e⟩; exact ⟨x, List.mem_append_left _ hx, e⟩
  simp only [this]
def nilW (vk : Int) : List Int := if vk = 0 then [-1] else []
theorem filter_step {α : Type} (p : α → Bool) {l : List α} {k : Nat} {z : α} (h : l[k]? = some z) : (l.take (k + 1)).filter p = (l.take k).filter p ++ if p z = true then [z] else [] := by
 rw [List.take_add_one, h, Option.toList_some, List.filter_append]
 congr 1
 cases hp : p z <;> simp [hp]
theorem choA_nil (l : List Tx) (i : Nat) (o : Op4) (h0 : o.vk = 0 ∨ o.vk = 1) : choA l i o = nilW o.vk ++ (leavs o.key (o.vk, o.vn) l).filter fun z => decide (z ≠ (i : Int)) := by
 unfold choA
 congr 1
 unfold headW nilW;rcases h0 with h | h
 ·rw [if_neg (show ¬ (o.vk, o.vn).1 = 1 by dsimp only; omega), if_pos h]
 ·rw [if_pos (show (o.vk, o.vn).1 = 1 from h), if_neg (by omega)]
end Go.Proofs.YthdofaoamljkfaaGreatDoor
namespace Go.Proofs.YthdofaoamljkfaaGreatDoor
open Go.RowKit Go.ChangeShapes
abbrev V3 := Int × V2
def agW (v : V3) : Value := .agg #[.int .i64 v.1, .int .i64 v.2.1, .int .i64 v.2.2]
def WWf (v : V3) : Prop := (Lit.int .i64 v.1).wf = true ∧ VWf v.2
def kW3 (v : V3) : Lit := .string (keyBytes [.int .i64 v.1, .int .i64 v.2.1, .int .i64 v.2.2])
theorem what_row : (72 : TypeId) < Tryz.prog.types.size := of_decide_eq_true (by kernel_rfl)
theorem what_wide : (match Tryz.prog.underlying 72 with | some (.array _ _) | some (.struct _) => true | _ => false) = true := by rw [Tryz.underlying72]
theorem what_cells : Tryz.prog.cellsOf 72 = 3 := by kernel_rfl
theorem what_keyType : Tryz.prog.keyType 72 = true := by kernel_rfl
theorem types_two : ∃ m, Tryz.prog.types.size = m + 1 + 1 := by
 have h : (1 : Nat) < Tryz.prog.types.size := of_decide_eq_true (by kernel_rfl);exact ⟨Tryz.prog.types.size - 2, by omega⟩
set_option maxRecDepth 100000 in
theorem law_what : Go.Maps.Keyed Tryz.prog 72 := Go.Maps.Keyed.of_law (deep_law_laid laidOut (m := 3) (by omega) what_row (by kernel_rfl) what_wide)
theorem key_what {v : V3} (h : WWf v) : keyOf Tryz.prog 72 (agW v) = some (kW3 v) := by
 obtain ⟨m, hm⟩ := types_two;unfold keyOf agW kW3;rw [Tryz.underlying72];dsimp only;rw [if_pos (by simp [what_keyType, Value.formed, Tryz.underlying72, what_cells]), hm];unfold Program.keyLits;rw [Tryz.underlying72];dsimp only;rw [if_pos (by rw [what_cells]; exact ⟨rfl, by simp⟩)];simp only [List.toList_toArray, List.mapM_cons, List.mapM_nil, val_one.1, val_cells];have h2 : ∀ d, Tryz.prog.keyLits (d + 1 + 1) 68 [.int .i64 v.2.1, .int .i64 v.2.2] = some [.int .i64 v.2.1, .int .i64 v.2.2] := fun d => by
  unfold Program.keyLits;rw [Tryz.underlying68];dsimp only;rw [if_pos (by rw [val_cells]; exact ⟨rfl, by simp⟩)];simp [val_one.1, val_one.2, Program.keyLits, Tryz.underlying3, Tryz.underlying2, h.2.1, h.2.2]
 have h1 : ∀ d, Tryz.prog.keyLits (d + 1) 3 [.int .i64 v.1] = some [.int .i64 v.1] := fun d => by
  unfold Program.keyLits;rw [Tryz.underlying3];simp [h.1]
 simp [Value.cells, h1, h2]
theorem kW3_inj {u v : V3} (hu : WWf u) (hv : WWf v) (h : kW3 u = kW3 v) : u = v := by
 have := law_what.inj (key_what hu) (by rw [h]; exact key_what hv);unfold agW at this;simp at this;exact Prod.ext this.1 (Prod.ext this.2.1 this.2.2)
theorem kW3_lit (v : V3) : WideAt.IsKeyLit (kW3 v) := by unfold kW3; trivial
def ItIs (d : DataW Unit) (zs : List Int) : Prop := (d = .nil ∧ zs = []) ∨ d = .slice (lits .i64 zs) []
theorem lits_inj {xs ys : List Int} (h : lits (H := Unit) .i64 xs = lits .i64 ys) : xs = ys := by
 unfold lits at h;exact (List.map_inj_right (fun a b hab => by simpa using hab)).1 h
theorem ItIs.same {d : DataW Unit} {xs ys : List Int} (h : ItIs d xs) (h' : ItIs d ys) : xs = ys := by
 rcases h with ⟨rfl, rfl⟩ | rfl
 ·rcases h' with ⟨-, rfl⟩ | h'
  ·rfl
  ·cases h'
 ·rcases h' with ⟨h', -⟩ | h'
  ·cases h'
  ·simp only [DataW.slice.injEq, and_true] at h';exact lits_inj h'
theorem ItIs.owns {w : World} {base : Nat} {e : TypeId} {v : Value} {zs : List Int} (h : w.ownsInts base e .i64 v zs) : ItIs (rowDatum .i64 v zs) zs := by
 rcases h.datum (H := Unit) with ⟨h1, h2⟩ | h1
 ·exact .inl ⟨h1, h2⟩
 ·exact .inr h1
def GrIs (D : DataW Unit) (f : Int → V2 → List Int) : Prop := Maps.IsMap D ∧ ∀ v : V3, WWf v → ItIs (D.atKey (kW3 v) .nil) (f v.1 v.2)
theorem GrIs.start : GrIs (.map []) fun _ _ => [] := ⟨Maps.isMap_empty, fun v _ => .inl ⟨rfl, rfl⟩⟩
theorem GrIs.put {D : DataW Unit} {f g : Int → V2 → List Int} (h : GrIs D f) {u : V3} (hu : WWf u) {d : DataW Unit} (hd : ItIs d (g u.1 u.2)) (hg : ∀ v : V3, v ≠ u → g v.1 v.2 = f v.1 v.2) : GrIs (D.put (kW3 u) d) g := by
 refine ⟨h.1.put _ _, fun v hv => ?_⟩
 by_cases e : v = u
 ·subst e;rw [Maps.atKey_put_same h.1 (kW3_lit v)];exact hd
 ·rw [Maps.atKey_put_other (fun q => e (kW3_inj hv hu q)), hg v e];exact h.2 v hv
theorem GrIs.cong {D : DataW Unit} {f g : Int → V2 → List Int} (h : GrIs D f) (e : ∀ k v, g k v = f k v) : GrIs D g := ⟨h.1, fun v hv => by rw [e]; exact h.2 v hv⟩
section
variable {H : Type} {P : Program} {k : TypeId} {w w' : World} {base base' : Nat} {e : TypeId} {q : IntKind} {b n : Nat} {D : DataW H} {S : List Nat}
theorem groups_only (h : w.ownsGroups P k base e q b n D) (ho : Only S w w') (hb : b ∉ S) (hS : ∀ g ∈ S, g < base) : w'.ownsGroups P k base e q b n D := by
 obtain ⟨es, clock, hh, F, hs, rfl, hbb, hlen, hap⟩ := h;have hblt : b < w.heap.size := (Array.getElem?_eq_some_iff.1 hh).1;have hI : ∀ x zs, w.ownsInts base e q x zs → w'.ownsInts base e q x zs := fun x zs hx => ⟨own_only hx.1 ho (fun g hg hm => by
  have h1 := (hx.1.lt g hg).1;have h2 := hS g (by simpa using hm);omega), hx.2⟩
 obtain ⟨F1, hmap, _⟩ := F.stay (R' := rowElem w' base e q) (fun x hx z hz => by
  obtain ⟨zs, ho, rfl⟩ := rowElem_inv hz;exact rowElem_mk (hI _ _ ho))
 refine ⟨es, clock, (ho.keeps b hblt hb).trans hh, F1, hs, by rw [hmap], hbb, fun x hx zs ho => ?_, hap⟩;obtain ⟨y, hy⟩ := F.reads x hx;obtain ⟨z, hz, _⟩ := WideElems.rd_val hy;obtain ⟨zs0, ho0, _⟩ := rowElem_inv hz;rw [ho.unique (hI _ _ ho0)];exact hlen x hx zs0 ho0
theorem groups_empty (hh : w.heap[b]? = some (.map #[] 0)) (hb : b < base) : w.ownsGroups (H := H) P k base e q b 0 (.map []) :=
 ⟨#[], 0, hh, ⟨by simp, MapKept.stamped_empty 0, by simp⟩, Nat.le_refl _, rfl, hb, by simp, by simp⟩
theorem groups_mono (h : w.ownsGroups P k base e q b n D) {n' : Nat} (hn : n ≤ n') : w.ownsGroups P k base e q b n' D := by
 obtain ⟨es, clock, hb, F, hs, hD, hbb, hlen, hap⟩ := h;exact ⟨es, clock, hb, F, Nat.le_trans hs hn, hD, hbb, fun x hx zs hz => Nat.le_trans (hlen x hx zs hz) hn, hap⟩
theorem groups_lt (h : w.ownsGroups P k base e q b n D) : b < w.heap.size := by
 obtain ⟨es, clock, hb, -⟩ := h;exact (Array.getElem?_eq_some_iff.1 hb).1
end
end Go.Proofs.YthdofaoamljkfaaGreatDoor
