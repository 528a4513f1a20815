/- Parts. -/
import Derived.Test.YtjfbeeogiejopaaGreatDoorWorldAllCardK43
set_option maxRecDepth 10000
set_option maxHeartbeats 16000000
set_option linter.unusedVariables false
set_option linter.unusedSimpArgs false
namespace Go.Proofs.YtjfbeeogiejopaaGreatDoor
def Goes {β : Type} (f : β → Option β) (L : List β) : Prop := ∀ (i : Nat) (x : β), L[i]? = some x → f x = L[i + 1]?
theorem Goes.tail {β : Type} {f : β → Option β} {a : β} {L : List β} (h : Goes f (a :: L)) : Goes f L := fun i x hx => by
 have := h (i + 1) x (by simpa using hx)
 simpa using this
theorem Goes.head {β : Type} {f : β → Option β} {a : β} {L : List β} (h : Goes f (a :: L)) : f a = L[0]? := by
 have := h 0 a rfl
 simpa using this
theorem goes_flat {α β : Type} {g : α → Option α} {B : α → List β} {F : β → Option β} {hd : α → β} : ∀ {A : List α}, Goes g A → (∀ a ∈ A, (B a)[0]? = some (hd a)) →
  (∀ a ∈ A, ∀ (i : Nat) (x : β), (B a)[i]? = some x → F x = match (B a)[i + 1]? with | some y => some y | none => (g a).map hd) → Goes F (A.flatMap B)
 | [], _, _, _ => fun i x hx => by simp at hx
 | a :: A, hg, hh, hF => by
  have ih := goes_flat (A := A) hg.tail (fun b hb => hh b (List.mem_cons_of_mem _ hb)) (fun b hb => hF b (List.mem_cons_of_mem _ hb));have h0 := hg.head;have hz : (A.flatMap B)[0]? = (g a).map hd := by
   rw [h0]
   cases A with
   | nil => rfl
   | cons b A =>
    have := hh b (by simp);rw [List.flatMap_cons, List.getElem?_append_left (by rcases hB : B b with _ | ⟨u, v⟩ <;> rw [hB] at this <;> simp at this ⊢), this]
    rfl
  intro i x hx;rw [List.flatMap_cons] at hx ⊢
  by_cases hi : i < (B a).length
  ·rw [List.getElem?_append_left hi] at hx;rw [hF a (by simp) i x hx]
   by_cases hj : i + 1 < (B a).length
   ·rw [List.getElem?_append_left hj, List.getElem?_eq_getElem hj]
   ·rw [List.getElem?_eq_none (by omega), List.getElem?_append_right (by omega), show i + 1 - (B a).length = 0 by omega, hz]
  ·rw [List.getElem?_append_right (by omega)] at hx ⊢;rw [show i + 1 - (B a).length = i - (B a).length + 1 by omega];exact ih _ _ hx
theorem Goes.inj {β : Type} {f : β → Option β} {L : List β} (h : Goes f L) {i j : Nat} {x : β} (hi : L[i]? = some x) (hj : L[j]? = some x) : i = j := by
 have key : ∀ (k i j : Nat) (x : β), L.length - j ≤ k → i < j → L[i]? = some x → L[j]? = some x → False := by
  intro k
  induction k with
  | zero => intro i j x hk hij hi hj; have := (List.getElem?_eq_some_iff.1 hj).1; omega
  | succ k ih =>
   intro i j x hk hij hi hj;have h1 := h i x hi;have h2 := h j x hj;have hjl := (List.getElem?_eq_some_iff.1 hj).1;have hil : L[i + 1]? = some L[i + 1] := List.getElem?_eq_getElem (by omega);exact ih (i + 1) (j + 1) L[i + 1] (by omega) (by omega) hil (by rw [← h2, h1, hil])
 rcases Nat.lt_trichotomy i j with hij | hij | hij
 ·exact (key _ i j x (Nat.le_refl _) hij hi hj).elim
 ·exact hij
 ·exact (key _ j i x (Nat.le_refl _) hij hj hi).elim
theorem nextOf_goes {α : Type} [BEq α] [LawfulBEq α] {vs : List α} (hn : vs.Nodup) : Goes (nextOf vs) vs := by
 intro i x hx;unfold nextOf;obtain ⟨hi, rfl⟩ := List.getElem?_eq_some_iff.1 hx;rw [List.Nodup.idxOf_getElem hn i hi]
theorem prodL_zero {α : Type} [BEq α] {d : α} : ∀ {vals : List (List α)}, (∀ vs ∈ vals, vs ≠ []) → (prodL vals)[0]? = some (headsL d vals)
 | [], _ => rfl
 | vs :: r, h => by
  have ih := prodL_zero (d := d) (vals := r) (fun x hx => h x (List.mem_cons_of_mem _ hx));obtain ⟨v, t, rfl⟩ : ∃ v t, vs = v :: t := by
   cases vs with
   | nil => exact absurd rfl (h [] (by simp))
   | cons v t => exact ⟨v, t, rfl⟩
  unfold prodL;rw [List.flatMap_cons];rw [List.getElem?_append_left (by rw [List.length_map]; exact (List.getElem?_eq_some_iff.1 ih).1), List.getElem?_map, ih]
  rfl
theorem prodL_goes {α : Type} [BEq α] [LawfulBEq α] {d : α} : ∀ {vals : List (List α)}, (∀ vs ∈ vals, vs ≠ [] ∧ vs.Nodup) → Goes (upL d vals) (prodL vals)
 | [], _ => fun i x hx => by
  cases i with
  | zero => simp [prodL] at hx ⊢; subst hx; rfl
  | succ i => simp [prodL] at hx
 | vs :: r, h => by
  have ih := prodL_goes (d := d) (vals := r) (fun x hx => h x (List.mem_cons_of_mem _ hx));have h0 := prodL_zero (d := d) (vals := r) (fun x hx => (h x (List.mem_cons_of_mem _ hx)).1);have hv := h vs (by simp);unfold prodL;refine goes_flat (g := nextOf vs) (hd := fun v => v :: headsL d r) (nextOf_goes hv.2) (fun a ha => by rw [List.getElem?_map, h0]; rfl) ?_;intro a ha i x hx;rw [List.getElem?_map] at hx ⊢
  cases hp : (prodL r)[i]? with
  | none => rw [hp] at hx; simp at hx
  | some xs =>
   rw [hp] at hx;simp at hx;subst hx;rw [upL_cons, ih i xs hp]
   cases (prodL r)[i + 1]? <;> rfl
def prodN : List Nat → Nat
 | [] => 1
 | a :: l => a * prodN l
theorem prodL_len {α : Type} : ∀ (vals : List (List α)), (prodL vals).length = prodN (vals.map List.length)
 | [] => rfl
 | vs :: r => by
  unfold prodL;rw [List.length_flatMap];simp only [List.length_map, prodL_len r, List.map_cons, prodN];generalize prodN (r.map List.length) = p
  induction vs with
  | nil => simp
  | cons v vs ih => simp [ih, Nat.add_mul, Nat.add_comm]
theorem prodL_mem {α : Type} : ∀ {vals : List (List α)} {l : List α}, l ∈ prodL vals → l.length = vals.length ∧ ∀ (i : Nat) (vs : List α) (x : α), vals[i]? = some vs → l[i]? = some x → x ∈ vs
 | [], l, h => by
  simp [prodL] at h;subst h;exact ⟨rfl, fun i vs x hv => by simp at hv⟩
 | us :: r, l, h => by
  unfold prodL at h;obtain ⟨v, hv, hl⟩ := List.mem_flatMap.1 h;obtain ⟨xs, hx, rfl⟩ := List.mem_map.1 hl;obtain ⟨h1, h2⟩ := prodL_mem hx;refine ⟨by simp [h1], fun i vs x hvs hxs => ?_⟩
  cases i with
  | zero => simp at hvs hxs; subst hvs hxs; exact hv
  | succ i => exact h2 i vs x (by simpa using hvs) (by simpa using hxs)
/-! ### Sums and products, held at a million -/
theorem cap_mul (a b : Nat) : capN (capN a * b) = capN (a * b) := by
 unfold capN;rcases Nat.le_total a 1000000 with h | h
 ·rw [Nat.min_eq_left h]
 ·rw [Nat.min_eq_right h];rcases Nat.eq_zero_or_pos b with rfl | hb
  ·simp
  ·have h1 : 1000000 * 1 ≤ 1000000 * b := Nat.mul_le_mul_left _ hb;have h2 : 1000000 * b ≤ a * b := Nat.mul_le_mul_right _ h;omega
theorem cap_mul' (a b : Nat) : capN (a * capN b) = capN (a * b) := by rw [Nat.mul_comm, cap_mul, Nat.mul_comm]
theorem cap_mul1 (a b : Nat) : capN (a * (capN b + 1)) = capN (a * (b + 1)) := by
 rcases Nat.le_total b 1000000 with h | h
 ·have : capN b = b := Nat.min_eq_left h;rw [this]
 ·have hb : capN b = 1000000 := Nat.min_eq_right h;rw [hb];rcases Nat.eq_zero_or_pos a with rfl | ha
  ·simp
  ·have h1 : 1 * (1000000 + 1) ≤ a * (1000000 + 1) := Nat.mul_le_mul_right _ ha;have h2 : 1 * (b + 1) ≤ a * (b + 1) := Nat.mul_le_mul_right _ ha;unfold capN;omega
def sumN : List Nat → Nat
 | [] => 0
 | a :: l => a + sumN l
theorem sumN_app (l m : List Nat) : sumN (l ++ m) = sumN l + sumN m := by
 induction l with
 | nil => simp [sumN]
 | cons a l ih => simp [sumN, ih, Nat.add_assoc]
theorem prodN_app (l m : List Nat) : prodN (l ++ m) = prodN l * prodN m := by
 induction l with
 | nil => simp [prodN]
 | cons a l ih => simp [prodN, ih, Nat.mul_assoc]
theorem sumN_mul {α : Type} (f : α → Nat) (c : Nat) (l : List α) : sumN (l.map fun x => c * f x) = c * sumN (l.map f) := by
 induction l with
 | nil => simp [sumN]
 | cons a l ih => simp [sumN, ih, Nat.mul_add]
theorem sumN_add {α : Type} (f g : α → Nat) (l : List α) : sumN (l.map fun x => f x + g x) = sumN (l.map f) + sumN (l.map g) := by
 induction l with
 | nil => simp [sumN]
 | cons a l ih => simp only [List.map_cons, sumN, ih]; omega
theorem sum_prodL (k : Nat) (F : List Bool → Nat) : sumN ((prodL (List.replicate (k + 1) [false, true])).map F) = sumN ((prodL (List.replicate k [false, true])).map fun c => F (false :: c) + F (true :: c)) := by
 rw [List.replicate_succ];simp only [prodL, List.flatMap_cons, List.flatMap_nil, List.append_nil, List.map_append, sumN_app, List.map_map];rw [sumN_add]
 rfl
/-! ### Each one of unknown fate either counts or doesn't -/
def holdN : List (Bool × Bool × Nat) → List Bool → Nat
 | [], _ => 1
 | (true, _, w) :: l, c => (if c.headD false = true then w else 1) * holdN l c.tail
 | (false, b, w) :: l, c => (if b = true then w else 1) * holdN l c
def infoN (l : List (Bool × Bool × Nat)) : Nat := (l.filter fun x => x.1).length
def totN : List (Bool × Bool × Nat) → Nat
 | [] => 1
 | (true, _, w) :: l => (w + 1) * totN l
 | (false, b, w) :: l => (if b = true then w else 1) * totN l
theorem tot_prodL : ∀ l : List (Bool × Bool × Nat), sumN ((prodL (List.replicate (infoN l) [false, true])).map (holdN l)) = totN l
 | [] => rfl
 | (true, b, w) :: l => by
  have ih := tot_prodL l;have : infoN ((true, b, w) :: l) = infoN l + 1 := by simp [infoN]
  rw [this, sum_prodL (infoN l) (holdN ((true, b, w) :: l))];simp only [holdN, List.headD_cons, List.tail_cons, if_pos];simp only [Bool.false_eq_true, if_false, totN, ← ih, Nat.add_mul, Nat.one_mul];rw [sumN_add, sumN_mul];omega
 | (false, b, w) :: l => by
  have ih := tot_prodL l;have : infoN ((false, b, w) :: l) = infoN l := by simp [infoN]
  rw [this];simp only [holdN, totN];rw [sumN_mul, ih]
/-! ### A product, gathered by where its members stand -/
def gathN {α : Type} (key : α → Nat) (g : α → Nat) (X : List α) (i : Nat) : Nat := prodN ((X.filter fun x => decide (key x = i)).map g)
theorem prod_one : ∀ n, prodN ((List.range n).map fun _ => 1) = 1
 | 0 => rfl
 | n + 1 => by rw [List.range_succ, List.map_append, prodN_app, prod_one n]; rfl
theorem prod_at (u : Nat → Nat) (a k : Nat) : ∀ n, prodN ((List.range n).map fun i => if i = k then a * u i else u i) = (if k < n then a else 1) * prodN ((List.range n).map u)
 | 0 => by simp [prodN]
 | n + 1 => by
  rw [List.range_succ, List.map_append, List.map_append, prodN_app, prodN_app, prod_at u a k n];simp only [List.map_cons, List.map_nil, prodN, Nat.mul_one]
  by_cases h : n = k
  ·subst h;rw [if_neg (by omega), if_pos rfl, if_pos (by omega), Nat.one_mul, Nat.mul_left_comm]
  ·rw [if_neg h]
   by_cases h2 : k < n
   ·rw [if_pos h2, if_pos (by omega), Nat.mul_assoc]
   ·rw [if_neg h2, if_neg (by omega), Nat.one_mul, Nat.one_mul]
theorem prod_gath {α : Type} (key : α → Nat) (g : α → Nat) (n : Nat) : ∀ X : List α, (∀ x ∈ X, key x < n) → prodN (X.map g) = prodN ((List.range n).map (gathN key g X))
 | [], _ => by
  have : (fun i => gathN key g [] i) = fun _ => 1 := by funext i; simp [gathN, prodN]
  show prodN [] = prodN ((List.range n).map (fun i => gathN key g [] i))
  rw [this, prod_one]
  rfl
 | x :: X, h => by
  have ih := prod_gath key g n X (fun y hy => h y (List.mem_cons_of_mem _ hy));have : (fun i => gathN key g (x :: X) i) = fun i => if i = key x then g x * gathN key g X i else gathN key g X i := by
   funext i
   unfold gathN;rw [List.filter_cons]
   by_cases hi : key x = i
   ·rw [if_pos (by simpa using hi), if_pos hi.symm]; rfl
   ·rw [if_neg (by simpa using hi), if_neg (fun e => hi e.symm)]
  show prodN ((x :: X).map g) = prodN ((List.range n).map (fun i => gathN key g (x :: X) i))
  rw [this, prod_at, if_pos (h x (by simp)), ← ih]
  rfl
theorem gath_if {α : Type} (key : α → Nat) (g : α → Nat) (X : List α) (p : Nat → Bool) (i : Nat) : gathN key (fun x => if p (key x) = true then g x else 1) X i = if p i = true then gathN key g X i else 1 := by
 unfold gathN
 induction X with
 | nil => simp [prodN]
 | cons x X ih =>
  rw [List.filter_cons]
  by_cases hi : key x = i
  ·rw [if_pos (by simpa using hi)];simp only [List.map_cons, prodN, ih, hi]
   by_cases hp : p i = true
   ·rw [if_pos hp, if_pos hp, if_pos hp]
   ·rw [if_neg hp, if_neg hp, if_neg hp]
  ·rw [if_neg (by simpa using hi)];exact ih

/-! ### The worlds of a history -/
theorem zipIdx_filter_len (m : List Tx) : (whichL infoB m).length = (m.filter infoB).length := by
 have : ∀ (m : List Tx) (k : Nat), ((m.zipIdx k).filter fun x => infoB x.1).length = (m.filter infoB).length := by
  intro m
  induction m with
  | nil => intro k; rfl
  | cons t m ih =>
   intro k;rw [List.zipIdx_cons, List.filter_cons, List.filter_cons]
   cases infoB t <;> simp [ih]
 unfold whichL;rw [List.length_map];exact this m 0
theorem comL_cons (t : Tx) (l : List Tx) (c : List Bool) : comL (t :: l) c = (if t.f = 3 then c.headD false else decide (t.f = 1)) :: comL l (if t.f = 3 then c.tail else c) := by
 have hr : ∀ i, rankL (t :: l) (i + 1) = (if t.f = 3 then 1 else 0) + rankL l i := by
  intro i;unfold rankL;rw [zipIdx_filter_len, zipIdx_filter_len, List.take_succ_cons, List.filter_cons];unfold infoB
  by_cases hf : t.f = 3
  ·rw [if_pos (by simpa using hf), if_pos hf, List.length_cons]; omega
  ·rw [if_neg (by simpa using hf), if_neg hf]; omega
 refine List.ext_getElem? fun i => ?_
 cases i with
 | zero =>
  rw [comL_get (l := t :: l) (i := 0) rfl];unfold comB
  by_cases hf : t.f = 3
  ·rw [if_pos hf, if_pos hf, if_pos hf];simp [rankL, whichL, List.headD_eq_head?_getD, List.head?_eq_getElem?]
  ·rw [if_neg hf, if_neg hf, if_neg hf]
   rfl
 | succ i =>
  rw [List.getElem?_cons_succ]
  cases h : l[i]? with
  | none => rw [List.getElem?_eq_none (by rw [comL_len]; have := List.getElem?_eq_none_iff.1 h; simp; omega), List.getElem?_eq_none (by rw [comL_len]; exact List.getElem?_eq_none_iff.1 h)]
  | some u =>
   rw [comL_get (l := t :: l) (i := i + 1) (t := u) (by simpa using h), comL_get h];unfold comB;rw [hr]
   by_cases hu : u.f = 3
   ·rw [if_pos hu, if_pos hu]
    by_cases hf : t.f = 3
    ·rw [if_pos hf, if_pos hf, List.getD_eq_getElem?_getD, List.getD_eq_getElem?_getD, List.getElem?_tail, Nat.add_comm]
    ·rw [if_neg hf, if_neg hf, Nat.zero_add]
   ·rw [if_neg hu, if_neg hu]
def fateL : (Nat → Nat) → List Tx → List (Bool × Bool × Nat)
 | _, [] => []
 | W, t :: l => (infoB t, decide (t.f = 1), W 0) :: fateL (fun i => W (i + 1)) l
theorem fateL_cons (W : Nat → Nat) (t : Tx) (l : List Tx) : fateL W (t :: l) = (infoB t, decide (t.f = 1), W 0) :: fateL (fun i => W (i + 1)) l := rfl
theorem fate_info : ∀ (l : List Tx) (W : Nat → Nat), infoN (fateL W l) = (whichL infoB l).length
 | [], _ => rfl
 | t :: l, W => by
  have ih := fate_info l (fun i => W (i + 1));rw [zipIdx_filter_len] at ih ⊢;rw [fateL_cons];unfold infoN at ih ⊢;rw [List.filter_cons, List.filter_cons]
  cases infoB t <;> simp [ih]
theorem fate_hold : ∀ (l : List Tx) (W : Nat → Nat) (c : List Bool), prodN ((List.range l.length).map fun i => if atB (comL l c) i = true then W i else 1) = holdN (fateL W l) c
 | [], _, _ => rfl
 | t :: l, W, c => by
  rw [List.length_cons, List.range_succ_eq_map, List.map_cons, List.map_map];have ih := fate_hold l (fun i => W (i + 1)) (if t.f = 3 then c.tail else c);have h1 : ((fun i => if atB (comL (t :: l) c) i = true then W i else 1) ∘ Nat.succ) = fun i => if atB (comL l (if t.f = 3 then c.tail else c)) i = true then W (i + 1) else 1 := by
   funext i
   show (if atB (comL (t :: l) c) (i + 1) = true then W (i + 1) else 1) = _
   rw [comL_cons]
   rfl
  rw [h1];unfold prodN;rw [ih];have h0 : atB (comL (t :: l) c) 0 = if t.f = 3 then c.headD false else decide (t.f = 1) := by rw [comL_cons]; rfl
  rw [h0, fateL_cons]
  by_cases hf : t.f = 3
  ·have : infoB t = true := by simpa [infoB] using hf
   rw [this, if_pos hf, if_pos hf]
   rfl
  ·have : infoB t = false := by simpa [infoB] using hf
   rw [this, if_neg hf, if_neg hf]
   rfl
theorem triesX_one (h : Hst) {x : Pl} {t : Tx} (ht : h.l[x.1]? = some t) : (triesX h false x).length = 1 := by
 unfold triesX;rw [ht]
 rfl
def whole (h : Hst) : Nat → Nat := gathN (fun x : Pl => x.1) (trLen h) (lostX h.l)
theorem ways_prod (h : Hst) (c : List Bool) : prodN ((allT h c).map List.length) = holdN (fateL (whole h) h.l) c := by
 rw [← fate_hold];unfold allT;rw [List.map_map];have h1 : (lostX h.l).map (List.length ∘ fun x => triesX h (atB (comL h.l c) x.1) x) = (lostX h.l).map fun x => if atB (comL h.l c) x.1 = true then trLen h x else 1 := by
  refine List.map_congr_left fun x hx => ?_;obtain ⟨k, hk⟩ := List.mem_iff_getElem?.1 hx;obtain ⟨t, ht, -, -⟩ := lostX_mem hk
  show (triesX h (atB (comL h.l c) x.1) x).length = _
  cases hb : atB (comL h.l c) x.1 with
  | true => rfl
  | false => exact triesX_one h ht
 rw [h1, prod_gath (fun x : Pl => x.1) _ h.l.length (lostX h.l) (fun x hx => by
  obtain ⟨k, hk⟩ := List.mem_iff_getElem?.1 hx;obtain ⟨t, ht, -, -⟩ := lostX_mem hk;exact (List.getElem?_eq_some_iff.1 ht).1)]
 congr 1
 refine List.map_congr_left fun i _ => ?_;exact gath_if (fun x : Pl => x.1) (trLen h) (lostX h.l) (fun k => atB (comL h.l c) k) i
theorem ways_at (h : Hst) (n : Nat) : ∀ (X : List Pl) (ws : List Nat) (a : Nat → Nat), ws.length = n → (∀ x ∈ X, x.1 < n) → (∀ i, i < n → ws.getD i 0 = capN (a i)) → ∀ i, i < n → (X.foldl (waysF h) ws).getD i 0 = capN (a i * gathN (fun x : Pl => x.1) (trLen h) X i)
 | [], ws, a, hl, hX, ha, i, hi => by
  rw [List.foldl_nil, ha i hi];simp [gathN, prodN]
 | x :: X, ws, a, hl, hX, ha, i, hi => by
  have hx := hX x (by simp);rw [List.foldl_cons];have := ways_at h n X (waysF h ws x) (fun i => if i = x.1 then a i * trLen h x else a i) (by unfold waysF; rw [List.length_set, hl]) (fun y hy => hX y (List.mem_cons_of_mem _ hy)) (fun i hi => by
   unfold waysF;rw [List.getD_eq_getElem?_getD, List.getElem?_set]
   by_cases he : x.1 = i
   ·subst he;rw [if_pos rfl, if_pos (by omega), if_pos rfl, ha x.1 hx, cap_mul]
    rfl
   ·rw [if_neg he, if_neg (fun e => he e.symm), ← List.getD_eq_getElem?_getD, ha i hi]) i hi
  rw [this];unfold gathN;rw [List.filter_cons]
  by_cases he : i = x.1
  ·subst he;rw [if_pos rfl, if_pos (by simp)];simp only [List.map_cons, prodN, Nat.mul_assoc]
  ·rw [if_neg he, if_neg (by simpa using fun e => he e.symm)]
theorem tot_fold (ws : List Nat) : ∀ (l : List Tx) (k a : Nat) (W : Nat → Nat), (∀ i, i < l.length → ws.getD (k + i) 0 = capN (W i)) → (l.zipIdx k).foldl (cntF ws) (capN a) = capN (a * totN (fateL W l))
 | [], k, a, W, _ => by simp [fateL, totN]
 | t :: l, k, a, W, h => by
  have h0 := h 0 (by simp);rw [Nat.add_zero] at h0;have ih := fun b => tot_fold ws l (k + 1) b (fun i => W (i + 1)) (fun i hi => by
   have := h (i + 1) (by simp; omega)
   rwa [show k + (i + 1) = k + 1 + i by omega] at this)
  rw [List.zipIdx_cons, List.foldl_cons, fateL_cons];have hF : cntF ws (capN a) (t, k) = if t.f = 1 then capN (capN a * capN (W 0)) else if t.f = 3 then capN (capN a * (capN (W 0) + 1)) else capN a := by
   unfold cntF;dsimp only;rw [h0]
  rw [hF]
  by_cases h1 : t.f = 1
  ·have h3 : infoB t = false := by simp [infoB, h1]
   rw [if_pos h1, h3, cap_mul, cap_mul', ih];simp [totN, h1, Nat.mul_assoc]
  ·rw [if_neg h1]
   by_cases h3 : t.f = 3
   ·have h4 : infoB t = true := by simpa [infoB] using h3
    rw [if_pos h3, h4, cap_mul, cap_mul1, ih];simp [totN, Nat.mul_assoc]
   ·have h4 : infoB t = false := by simpa [infoB] using h3
    rw [if_neg h3, h4, ih];simp [totN, h1]
def totW (h : Hst) : Nat := totN (fateL (whole h) h.l)
theorem countW_tot {h : Hst} (hm : mayH h = true) : countW h = capN (totW h) := by
 unfold countW;rw [if_pos hm];unfold cntQ totW;have h1 := tot_fold (waysQ h (lostX h.l).length) h.l 0 1 (whole h) (fun i hi => by
  unfold waysQ;rw [List.take_length, Nat.zero_add];have := ways_at h h.l.length (lostX h.l) (List.replicate h.l.length 1) (fun _ => 1) (by simp) (fun x hx => by
   obtain ⟨k, hk⟩ := List.mem_iff_getElem?.1 hx;obtain ⟨t, ht, -, -⟩ := lostX_mem hk;exact (List.getElem?_eq_some_iff.1 ht).1) (fun i hi => by
   rw [List.getD_eq_getElem?_getD, List.getElem?_replicate, if_pos hi]
   rfl) i hi
  rw [this, Nat.one_mul]
  rfl)
 rw [List.take_of_length_le (by simp), Nat.one_mul] at *;exact h1

/-! ### What is tried is tried once, and may be -/
theorem sortV_head (l : List V2) : (sortV ((0, 0) :: l)).headD (0, 0) = (0, 0) ∧ sortV ((0, 0) :: l) ≠ [] := by
 obtain ⟨h1, h2⟩ := sortV_vals ((0, 0) :: l);have hz : ((0, 0) : V2) ∈ sortV ((0, 0) :: l) := (h2 _).2 ⟨by simp, by decide⟩;generalize sortV ((0, 0) :: l) = m at *
 cases m with
 | nil => simp at hz
 | cons y m =>
  refine ⟨?_, by simp⟩;rcases List.mem_cons.1 hz with h | h
  ·exact h.symm
  ·have h3 := (List.pairwise_cons.1 h1.rise).1 _ h;have h4 := (lessV_spec _ _).1 h3;have h5 := (may_spec y).1 h4.1;omega
theorem rising_nodup {l : List V2} (h : RisingV l) : l.Nodup := by
 unfold RisingV at h;refine List.Pairwise.imp ?_ h;intro a b hab e;subst e;rw [lessV_irr] at hab
 cases hab
theorem hit_fresh {h : Hst} (hm : mayH h = true) {k : Nat} {t : Tx} {key : Int} {o : Op4} (ht : h.l[k]? = some t) (ho : o ∈ t.ops) (hh : hitO key o = true) : (o.vk, o.vn) ≠ ((1, (freshN h.l key : Int)) : V2) := by
 intro e;have e2 := congrArg Prod.snd e;dsimp only at e2;have hn := fresh_not (key := key) (may_ops hm).1 (may_ops hm).2.1;have : wroteN h.l key (freshN h.l key : Int) = true := by
  unfold wroteN;refine List.any_eq_true.2 ⟨t, List.mem_of_getElem? ht, List.any_eq_true.2 ⟨o, ho, ?_⟩⟩;unfold hitO at hh;unfold hitN;simp only [Bool.and_eq_true, decide_eq_true_eq] at hh ⊢;exact ⟨hh.1, hh.2, e2⟩
 rw [this] at hn
 cases hn
theorem hit_kind {h : Hst} (hm : mayH h = true) {k : Nat} {t : Tx} {key : Int} {o : Op4} (ht : h.l[k]? = some t) (ho : o ∈ t.ops) (hh : hitO key o = true) : okV (o.vk, o.vn) = true := by
 unfold hitO at hh;simp only [Bool.and_eq_true] at hh;have := ((may_ops hm).2.2 t (List.mem_of_getElem? ht) o ho).2.2.2 hh.1;unfold okV;simp [this]
theorem triesX_good {h : Hst} (hm : mayH h = true) {x : Pl} {t : Tx} (ht : h.l[x.1]? = some t) (b : Bool) : triesX h b x ≠ [] ∧ (triesX h b x).Nodup ∧ (∀ v ∈ triesX h b x, okV v = true) ∧ (triesX h b x).headD (0, 0) = firstP h b x := by
 unfold triesX firstP;rw [ht];dsimp only;unfold triesO firstX
 cases b with
 | false =>
  simp [okV]
 | true =>
  rw [if_pos rfl, if_pos rfl]
  cases hl : leftW x.2.2.key (t.ops.take x.2.1) with
  | some v =>
   obtain ⟨o, ho, hh, rfl⟩ := leftW_mem hl;have ho' := List.mem_of_mem_take ho;have h1 := hit_fresh hm ht ho' hh;have h2 := hit_kind hm ht ho' hh;refine ⟨by simp, ?_, ?_, rfl⟩
   ·simp only [List.nodup_cons, List.mem_singleton, List.not_mem_nil, not_false_eq_true, List.nodup_nil, and_true];exact h1
   ·intro v hv;rcases List.mem_cons.1 hv with rfl | hv
    ·exact h2
    ·rcases List.mem_cons.1 hv with rfl | hv
     ·simp [okV]
     ·cases hv
  | none =>
   obtain ⟨h1, h2⟩ := sortV_head (leftL (x.1 : Int) x.2.2.key h.l);obtain ⟨h3, h4⟩ := sortV_vals (valsO (x.1 : Int) x.2.2.key h.l);have hv : ∀ v ∈ sortV (valsO (x.1 : Int) x.2.2.key h.l), v ≠ ((1, (freshN h.l x.2.2.key : Int)) : V2) ∧ okV v = true := by
    intro v hv;rcases List.mem_cons.1 ((h4 v).1 hv).1 with rfl | h5
    ·exact ⟨by simp, by decide⟩
    ·obtain ⟨k, t', ht', hf⟩ := leftL_mem h5;obtain ⟨-, -, o, ho, hh, rfl⟩ := forT_mem hf;exact ⟨hit_fresh hm ht' ho hh, hit_kind hm ht' ho hh⟩
   refine ⟨by simp, ?_, ?_, ?_⟩
   ·rw [List.nodup_append];refine ⟨rising_nodup h3.rise, by simp, ?_⟩;intro a ha b hb;rw [List.mem_singleton] at hb;subst hb;exact (hv a ha).1
   ·intro v hvm;rcases List.mem_append.1 hvm with h5 | h5
    ·exact (hv v h5).2
    ·rw [List.mem_singleton] at h5;subst h5;simp [okV]
   ·show (sortV ((0, 0) :: leftL (x.1 : Int) x.2.2.key h.l) ++ _).headD (0, 0) = (0, 0)
    generalize sortV ((0, 0) :: leftL (x.1 : Int) x.2.2.key h.l) = m at *
    cases m with
    | nil => exact absurd rfl h2
    | cons y m => exact h1
theorem allT_good {h : Hst} (hm : mayH h = true) (c : List Bool) : ∀ vs ∈ allT h c, vs ≠ [] ∧ vs.Nodup ∧ ∀ v ∈ vs, okV v = true := by
 intro vs hv;unfold allT at hv;obtain ⟨x, hx, rfl⟩ := List.mem_map.1 hv;obtain ⟨k, hk⟩ := List.mem_iff_getElem?.1 hx;obtain ⟨t, ht, -, -⟩ := lostX_mem hk;have := triesX_good hm ht (atB (comL h.l c) x.1);exact ⟨this.1, this.2.1, this.2.2.1⟩
theorem allT_heads {h : Hst} (hm : mayH h = true) (c : List Bool) : headsL (0, 0) (allT h c) = firstL h c := by
 unfold headsL allT firstL;rw [List.map_map];refine List.map_congr_left fun x hx => ?_;obtain ⟨k, hk⟩ := List.mem_iff_getElem?.1 hx;obtain ⟨t, ht, -, -⟩ := lostX_mem hk;exact (triesX_good hm ht (atB (comL h.l c) x.1)).2.2.2

/-! ### All worlds, in order -/
def fatesL (h : Hst) : List (List Bool) := prodL (List.replicate (infosN h) twoB)
def worldsL (h : Hst) : List Wld := (fatesL h).flatMap fun c => (prodL (allT h c)).map fun l => ⟨c, l⟩
theorem fates_len {h : Hst} {c : List Bool} (hc : c ∈ fatesL h) : c.length = infosN h := by
 have := (prodL_mem hc).1
 simpa using this
theorem world_may {h : Hst} (hm : mayH h = true) {x : Wld} (hx : x ∈ worldsL h) : mayW h x = true ∧ isB (allT h x.c) x.l = true ∧ x.c ∈ fatesL h ∧ x.l ∈ prodL (allT h x.c) := by
 unfold worldsL at hx;obtain ⟨c, hc, hx⟩ := List.mem_flatMap.1 hx;obtain ⟨l, hl, rfl⟩ := List.mem_map.1 hx;obtain ⟨h1, h2⟩ := prodL_mem hl;refine ⟨?_, isB_iff.2 fun i x vs hx hv => h2 i vs x hv hx, hc, hl⟩;unfold mayW;rw [hm];simp only [Bool.true_and, Bool.and_eq_true, decide_eq_true_eq];refine ⟨fates_len hc, by rw [h1, allT_len], List.all_eq_true.2 fun v hv => ?_⟩;obtain ⟨i, hi⟩ := List.mem_iff_getElem?.1 hv;have hil := (List.getElem?_eq_some_iff.1 hi).1;have hvs : (allT h c)[i]? = some (allT h c)[i] := List.getElem?_eq_getElem (by omega);exact (allT_good hm c _ (List.mem_of_getElem? hvs)).2.2 v (h2 i _ v hvs hi)
theorem worlds_goes {h : Hst} (hm : mayH h = true) : Goes (nextW h) (worldsL h) := by
 have hg : Goes (upL false (List.replicate (infosN h) twoB)) (fatesL h) := prodL_goes (fun vs hv => by rw [(List.mem_replicate.1 hv).2]; exact ⟨by decide, by decide⟩);unfold worldsL;refine goes_flat (g := upL false (List.replicate (infosN h) twoB)) (hd := fun c => ⟨c, firstL h c⟩) hg (fun c _ => ?_) ?_
 ·rw [List.getElem?_map, prodL_zero (d := (0, 0)) (fun vs hv => (allT_good hm c vs hv).1), allT_heads hm]
  rfl
 ·intro c hc i x hx;rw [List.getElem?_map] at hx ⊢
  cases hp : (prodL (allT h c))[i]? with
  | none => rw [hp] at hx; simp at hx
  | some l =>
   rw [hp] at hx;simp at hx;subst hx;have hw : (⟨c, l⟩ : Wld) ∈ worldsL h := List.mem_flatMap.2 ⟨c, hc, List.mem_map.2 ⟨l, List.mem_of_getElem? hp, rfl⟩⟩;obtain ⟨h1, h2, -, -⟩ := world_may hm hw;have h3 := prodL_goes (d := ((0, 0) : V2)) (vals := allT h c) (fun vs hv => ⟨(allT_good hm c vs hv).1, (allT_good hm c vs hv).2.1⟩) i l hp
   cases hq : (prodL (allT h c))[i + 1]? with
   | some l' =>
    rw [hq] at h3;rw [nextW_c h1 h2 h3]
    rfl
   | none =>
    rw [hq] at h3;rw [nextW_d h1 h2 h3];dsimp only;rw [fates_len hc]
    rfl
theorem worlds_zero {h : Hst} (hm : mayH h = true) : (worldsL h)[0]? = some ⟨firstWC h, firstWL h⟩ := by
 have h0 : (fatesL h)[0]? = some (List.replicate (infosN h) false) := by
  unfold fatesL;rw [prodL_zero (d := false) (fun vs hv => by rw [(List.mem_replicate.1 hv).2]; decide)];simp [headsL, twoB]
 have h1 : (prodL (allT h (List.replicate (infosN h) false)))[0]? = some (firstL h (List.replicate (infosN h) false)) := by
  rw [prodL_zero (d := (0, 0)) (fun vs hv => (allT_good hm _ vs hv).1), allT_heads hm]
 unfold worldsL firstWC firstWL;rw [if_pos hm, if_pos hm];generalize List.replicate (infosN h) false = c at *
 cases hf : fatesL h with
 | nil => rw [hf] at h0; simp at h0
 | cons c' r =>
  rw [hf] at h0;simp at h0;subst h0;rw [List.flatMap_cons, List.getElem?_append_left (by rw [List.length_map]; exact (List.getElem?_eq_some_iff.1 h1).1), List.getElem?_map, h1]
  rfl
theorem worlds_len (h : Hst) : (worldsL h).length = totW h := by
 unfold worldsL totW;have h1 := tot_prodL (fateL (whole h) h.l);rw [fate_info] at h1;rw [← h1, List.length_flatMap];have : ∀ l : List (List Bool), (l.map fun c => ((prodL (allT h c)).map fun l => (⟨c, l⟩ : Wld)).length).sum = sumN (l.map (holdN (fateL (whole h) h.l))) := by
  intro l
  induction l with
  | nil => rfl
  | cons c l ih =>
   rw [List.map_cons, List.map_cons, List.sum_cons, ih];unfold sumN;rw [List.length_map, prodL_len, ways_prod]
   cases l <;> rfl
 rw [this]
 rfl
theorem worlds_step {h : Hst} (hm : mayH h = true) {i : Nat} {x : Wld} (hx : (worldsL h)[i]? = some x) : nextW h x = (worldsL h)[i + 1]? := worlds_goes hm i x hx
theorem worlds_twice {h : Hst} (hm : mayH h = true) {i j : Nat} {x : Wld} (hi : (worldsL h)[i]? = some x) (hj : (worldsL h)[j]? = some x) : i = j := (worlds_goes hm).inj hi hj
/-! ### The document's number of worlds -/
end Go.Proofs.YtjfbeeogiejopaaGreatDoor
