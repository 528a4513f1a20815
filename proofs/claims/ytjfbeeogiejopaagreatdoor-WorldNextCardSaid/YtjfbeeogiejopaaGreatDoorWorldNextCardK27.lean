/- Parts. -/
import Derived.Test.YtjfbeeogiejopaaGreatDoorWorldNextCardK26
set_option maxRecDepth 10000
set_option maxHeartbeats 16000000
set_option linter.unusedVariables false
set_option linter.unusedSimpArgs false
namespace Go.Proofs.YtjfbeeogiejopaaGreatDoor
def Goes {β : Type} (f : β → Option β) (L : List β) : Prop := ∀ (i : Nat) (x : β), L[i]? = some x → f x = L[i + 1]?
theorem Goes.tail {β : Type} {f : β → Option β} {a : β} {L : List β} (h : Goes f (a :: L)) : Goes f L := fun i x hx => by
 have := h (i + 1) x (by simpa using hx)
 simpa using this
theorem Goes.head {β : Type} {f : β → Option β} {a : β} {L : List β} (h : Goes f (a :: L)) : f a = L[0]? := by
 have := h 0 a rfl
 simpa using this
theorem Goes.inj {β : Type} {f : β → Option β} {L : List β} (h : Goes f L) {i j : Nat} {x : β} (hi : L[i]? = some x) (hj : L[j]? = some x) : i = j := by
 have key : ∀ (k i j : Nat) (x : β), L.length - j ≤ k → i < j → L[i]? = some x → L[j]? = some x → False := by
  intro k
  induction k with
  | zero => intro i j x hk hij hi hj; have := (List.getElem?_eq_some_iff.1 hj).1; omega
  | succ k ih =>
   intro i j x hk hij hi hj;have h1 := h i x hi;have h2 := h j x hj;have hjl := (List.getElem?_eq_some_iff.1 hj).1;have hil : L[i + 1]? = some L[i + 1] := List.getElem?_eq_getElem (by omega);exact ih (i + 1) (j + 1) L[i + 1] (by omega) (by omega) hil (by rw [← h2, h1, hil])
 rcases Nat.lt_trichotomy i j with hij | hij | hij
 ·exact (key _ i j x (Nat.le_refl _) hij hi hj).elim
 ·exact hij
 ·exact (key _ j i x (Nat.le_refl _) hij hj hi).elim
def prodN : List Nat → Nat
 | [] => 1
 | a :: l => a * prodN l
theorem cap_mul (a b : Nat) : capN (capN a * b) = capN (a * b) := by
 unfold capN;rcases Nat.le_total a 1000000 with h | h
 ·rw [Nat.min_eq_left h]
 ·rw [Nat.min_eq_right h];rcases Nat.eq_zero_or_pos b with rfl | hb
  ·simp
  ·have h1 : 1000000 * 1 ≤ 1000000 * b := Nat.mul_le_mul_left _ hb;have h2 : 1000000 * b ≤ a * b := Nat.mul_le_mul_right _ h;omega
theorem cap_mul' (a b : Nat) : capN (a * capN b) = capN (a * b) := by rw [Nat.mul_comm, cap_mul, Nat.mul_comm]
theorem cap_add (a b : Nat) : capN (capN a + b) = capN (a + b) := by unfold capN; omega
theorem cap_add' (a b : Nat) : capN (a + capN b) = capN (a + b) := by unfold capN; omega
theorem cap_mul1 (a b : Nat) : capN (a * (capN b + 1)) = capN (a * (b + 1)) := by
 rcases Nat.le_total b 1000000 with h | h
 ·have : capN b = b := Nat.min_eq_left h;rw [this]
 ·have hb : capN b = 1000000 := Nat.min_eq_right h;rw [hb];rcases Nat.eq_zero_or_pos a with rfl | ha
  ·simp
  ·have h1 : 1 * (1000000 + 1) ≤ a * (1000000 + 1) := Nat.mul_le_mul_right _ ha;have h2 : 1 * (b + 1) ≤ a * (b + 1) := Nat.mul_le_mul_right _ ha;unfold capN;omega
def sumN : List Nat → Nat
 | [] => 0
 | a :: l => a + sumN l
theorem sumN_app (l m : List Nat) : sumN (l ++ m) = sumN l + sumN m := by
 induction l with
 | nil => simp [sumN]
 | cons a l ih => simp [sumN, ih, Nat.add_assoc]
theorem prodN_app (l m : List Nat) : prodN (l ++ m) = prodN l * prodN m := by
 induction l with
 | nil => simp [prodN]
 | cons a l ih => simp [prodN, ih, Nat.mul_assoc]
theorem sumN_mul {α : Type} (f : α → Nat) (c : Nat) (l : List α) : sumN (l.map fun x => c * f x) = c * sumN (l.map f) := by
 induction l with
 | nil => simp [sumN]
 | cons a l ih => simp [sumN, ih, Nat.mul_add]
theorem sumN_add {α : Type} (f g : α → Nat) (l : List α) : sumN (l.map fun x => f x + g x) = sumN (l.map f) + sumN (l.map g) := by
 induction l with
 | nil => simp [sumN]
 | cons a l ih => simp only [List.map_cons, sumN, ih]; omega
theorem cap_prod : ∀ (l : List Nat) (a : Nat), l.foldl (fun n x => capN (n * x)) (capN a) = capN (a * prodN l)
 | [], a => by simp [prodN]
 | x :: l, a => by
  rw [List.foldl_cons, cap_mul, cap_prod l (a * x)];simp [prodN, Nat.mul_assoc]
theorem cap_sum : ∀ (l : List Nat) (a : Nat), l.foldl (fun n x => capN (n + x)) (capN a) = capN (a + sumN l)
 | [], a => by simp [sumN]
 | x :: l, a => by
  rw [List.foldl_cons, cap_add, cap_sum l (a + x)];simp [sumN, Nat.add_assoc]
/-! ### Fates, by a number's bits -/
def bitsN : Nat → Nat → List Bool
 | 0, _ => []
 | k + 1, m => decide (m % 2 = 1) :: bitsN k (m / 2)
theorem bitsN_len : ∀ (k m : Nat), (bitsN k m).length = k
 | 0, _ => rfl
 | k + 1, m => by simp [bitsN, bitsN_len k]
theorem sum_pairs (f : Nat → Nat) : ∀ n, sumN ((List.range (2 * n)).map f) = sumN ((List.range n).map fun m => f (2 * m) + f (2 * m + 1))
 | 0 => rfl
 | n + 1 => by
  rw [show 2 * (n + 1) = 2 * n + 1 + 1 by omega, List.range_succ, List.range_succ, List.range_succ, List.map_append, List.map_append, List.map_append, sumN_app, sumN_app, sumN_app, sum_pairs f n];simp [sumN];omega
theorem sum_bits (k : Nat) (F : List Bool → Nat) : sumN ((List.range (2 ^ (k + 1))).map fun m => F (bitsN (k + 1) m)) = sumN ((List.range (2 ^ k)).map fun m => F (false :: bitsN k m) + F (true :: bitsN k m)) := by
 rw [Nat.pow_succ, Nat.mul_comm, sum_pairs]
 congr 1
 refine List.map_congr_left fun m _ => ?_;have h1 : 2 * m % 2 = 0 := by omega
 have h2 : (2 * m + 1) % 2 = 1 := by omega
 have h3 : 2 * m / 2 = m := by omega
 have h4 : (2 * m + 1) / 2 = m := by omega
 simp only [bitsN, h1, h2, h3, h4];simp
def holdN : List (Bool × Bool × Nat) → List Bool → Nat
 | [], _ => 1
 | (true, _, w) :: l, c => (if c.headD false = true then w else 1) * holdN l c.tail
 | (false, b, w) :: l, c => (if b = true then w else 1) * holdN l c
def infoN (l : List (Bool × Bool × Nat)) : Nat := (l.filter fun x => x.1).length
def totN : List (Bool × Bool × Nat) → Nat
 | [] => 1
 | (true, _, w) :: l => (w + 1) * totN l
 | (false, b, w) :: l => (if b = true then w else 1) * totN l
theorem tot_bits : ∀ l : List (Bool × Bool × Nat), sumN ((List.range (2 ^ infoN l)).map fun m => holdN l (bitsN (infoN l) m)) = totN l
 | [] => rfl
 | (true, b, w) :: l => by
  have ih := tot_bits l;have : infoN ((true, b, w) :: l) = infoN l + 1 := by simp [infoN]
  rw [this, sum_bits (infoN l) (holdN ((true, b, w) :: l))];simp only [holdN, List.headD_cons, List.tail_cons, if_pos];simp only [Bool.false_eq_true, if_false, totN, ← ih, Nat.add_mul, Nat.one_mul];rw [sumN_add, sumN_mul];omega
 | (false, b, w) :: l => by
  have ih := tot_bits l;have : infoN ((false, b, w) :: l) = infoN l := by simp [infoN]
  rw [this];simp only [holdN, totN];rw [sumN_mul, ih]
def gathN {α : Type} (key : α → Nat) (g : α → Nat) (X : List α) (i : Nat) : Nat := prodN ((X.filter fun x => decide (key x = i)).map g)
theorem prod_one : ∀ n, prodN ((List.range n).map fun _ => 1) = 1
 | 0 => rfl
 | n + 1 => by rw [List.range_succ, List.map_append, prodN_app, prod_one n]; rfl
theorem prod_at (u : Nat → Nat) (a k : Nat) : ∀ n, prodN ((List.range n).map fun i => if i = k then a * u i else u i) = (if k < n then a else 1) * prodN ((List.range n).map u)
 | 0 => by simp [prodN]
 | n + 1 => by
  rw [List.range_succ, List.map_append, List.map_append, prodN_app, prodN_app, prod_at u a k n];simp only [List.map_cons, List.map_nil, prodN, Nat.mul_one]
  by_cases h : n = k
  ·subst h;rw [if_neg (by omega), if_pos rfl, if_pos (by omega), Nat.one_mul, Nat.mul_left_comm]
  ·rw [if_neg h]
   by_cases h2 : k < n
   ·rw [if_pos h2, if_pos (by omega), Nat.mul_assoc]
   ·rw [if_neg h2, if_neg (by omega), Nat.one_mul, Nat.one_mul]
theorem prod_gath {α : Type} (key : α → Nat) (g : α → Nat) (n : Nat) : ∀ X : List α, (∀ x ∈ X, key x < n) → prodN (X.map g) = prodN ((List.range n).map (gathN key g X))
 | [], _ => by
  have : (fun i => gathN key g [] i) = fun _ => 1 := by funext i; simp [gathN, prodN]
  show prodN [] = prodN ((List.range n).map (fun i => gathN key g [] i))
  rw [this, prod_one]
  rfl
 | x :: X, h => by
  have ih := prod_gath key g n X (fun y hy => h y (List.mem_cons_of_mem _ hy));have : (fun i => gathN key g (x :: X) i) = fun i => if i = key x then g x * gathN key g X i else gathN key g X i := by
   funext i
   unfold gathN;rw [List.filter_cons]
   by_cases hi : key x = i
   ·rw [if_pos (by simpa using hi), if_pos hi.symm]; rfl
   ·rw [if_neg (by simpa using hi), if_neg (fun e => hi e.symm)]
  show prodN ((x :: X).map g) = prodN ((List.range n).map (fun i => gathN key g (x :: X) i))
  rw [this, prod_at, if_pos (h x (by simp)), ← ih]
  rfl
theorem gath_if {α : Type} (key : α → Nat) (g : α → Nat) (X : List α) (p : Nat → Bool) (i : Nat) : gathN key (fun x => if p (key x) = true then g x else 1) X i = if p i = true then gathN key g X i else 1 := by
 unfold gathN
 induction X with
 | nil => simp [prodN]
 | cons x X ih =>
  rw [List.filter_cons]
  by_cases hi : key x = i
  ·rw [if_pos (by simpa using hi)];simp only [List.map_cons, prodN, ih, hi]
   by_cases hp : p i = true
   ·rw [if_pos hp, if_pos hp, if_pos hp]
   ·rw [if_neg hp, if_neg hp, if_neg hp]
  ·rw [if_neg (by simpa using hi)];exact ih

/-! ### The worlds of a history -/
theorem zipIdx_filter_len (m : List Tx) : (whichL infoB m).length = (m.filter infoB).length := by
 have : ∀ (m : List Tx) (k : Nat), ((m.zipIdx k).filter fun x => infoB x.1).length = (m.filter infoB).length := by
  intro m
  induction m with
  | nil => intro k; rfl
  | cons t m ih =>
   intro k;rw [List.zipIdx_cons, List.filter_cons, List.filter_cons]
   cases infoB t <;> simp [ih]
 unfold whichL;rw [List.length_map];exact this m 0
theorem comL_cons (t : Tx) (l : List Tx) (c : List Bool) : comL (t :: l) c = (if t.f = 3 then c.headD false else decide (t.f = 1)) :: comL l (if t.f = 3 then c.tail else c) := by
 have hr : ∀ i, rankL (t :: l) (i + 1) = (if t.f = 3 then 1 else 0) + rankL l i := by
  intro i;unfold rankL;rw [zipIdx_filter_len, zipIdx_filter_len, List.take_succ_cons, List.filter_cons];unfold infoB
  by_cases hf : t.f = 3
  ·rw [if_pos (by simpa using hf), if_pos hf, List.length_cons]; omega
  ·rw [if_neg (by simpa using hf), if_neg hf]; omega
 refine List.ext_getElem? fun i => ?_
 cases i with
 | zero =>
  rw [comL_get (l := t :: l) (i := 0) rfl];unfold comB
  by_cases hf : t.f = 3
  ·rw [if_pos hf, if_pos hf, if_pos hf];simp [rankL, whichL, List.headD_eq_head?_getD, List.head?_eq_getElem?]
  ·rw [if_neg hf, if_neg hf, if_neg hf]
   rfl
 | succ i =>
  rw [List.getElem?_cons_succ]
  cases h : l[i]? with
  | none => rw [List.getElem?_eq_none (by rw [comL_len]; have := List.getElem?_eq_none_iff.1 h; simp; omega), List.getElem?_eq_none (by rw [comL_len]; exact List.getElem?_eq_none_iff.1 h)]
  | some u =>
   rw [comL_get (l := t :: l) (i := i + 1) (t := u) (by simpa using h), comL_get h];unfold comB;rw [hr]
   by_cases hu : u.f = 3
   ·rw [if_pos hu, if_pos hu]
    by_cases hf : t.f = 3
    ·rw [if_pos hf, if_pos hf, List.getD_eq_getElem?_getD, List.getD_eq_getElem?_getD, List.getElem?_tail, Nat.add_comm]
    ·rw [if_neg hf, if_neg hf, Nat.zero_add]
   ·rw [if_neg hu, if_neg hu]
def fateL : (Nat → Nat) → List Tx → List (Bool × Bool × Nat)
 | _, [] => []
 | W, t :: l => (infoB t, decide (t.f = 1), W 0) :: fateL (fun i => W (i + 1)) l
theorem fateL_cons (W : Nat → Nat) (t : Tx) (l : List Tx) : fateL W (t :: l) = (infoB t, decide (t.f = 1), W 0) :: fateL (fun i => W (i + 1)) l := rfl
theorem fate_info : ∀ (l : List Tx) (W : Nat → Nat), infoN (fateL W l) = (whichL infoB l).length
 | [], _ => rfl
 | t :: l, W => by
  have ih := fate_info l (fun i => W (i + 1));rw [zipIdx_filter_len] at ih ⊢;rw [fateL_cons];unfold infoN at ih ⊢;rw [List.filter_cons, List.filter_cons]
  cases infoB t <;> simp [ih]
theorem fate_hold : ∀ (l : List Tx) (W : Nat → Nat) (c : List Bool), prodN ((List.range l.length).map fun i => if atB (comL l c) i = true then W i else 1) = holdN (fateL W l) c
 | [], _, _ => rfl
 | t :: l, W, c => by
  rw [List.length_cons, List.range_succ_eq_map, List.map_cons, List.map_map];have ih := fate_hold l (fun i => W (i + 1)) (if t.f = 3 then c.tail else c);have h1 : ((fun i => if atB (comL (t :: l) c) i = true then W i else 1) ∘ Nat.succ) = fun i => if atB (comL l (if t.f = 3 then c.tail else c)) i = true then W (i + 1) else 1 := by
   funext i
   show (if atB (comL (t :: l) c) (i + 1) = true then W (i + 1) else 1) = _
   rw [comL_cons]
   rfl
  rw [h1];unfold prodN;rw [ih];have h0 : atB (comL (t :: l) c) 0 = if t.f = 3 then c.headD false else decide (t.f = 1) := by rw [comL_cons]; rfl
  rw [h0, fateL_cons]
  by_cases hf : t.f = 3
  ·have : infoB t = true := by simpa [infoB] using hf
   rw [this, if_pos hf, if_pos hf]
   rfl
  ·have : infoB t = false := by simpa [infoB] using hf
   rw [this, if_neg hf, if_neg hf]
   rfl
theorem triesX_one (h : Hst) {x : Pl} {t : Tx} (ht : h.l[x.1]? = some t) : (triesX h false x).length = 1 := by
 unfold triesX;rw [ht]
 rfl
def whole (h : Hst) : Nat → Nat := gathN (fun x : Pl => x.1) (trLen h) (lostX h.l)
theorem ways_prod (h : Hst) (c : List Bool) : prodN ((allT h c).map List.length) = holdN (fateL (whole h) h.l) c := by
 rw [← fate_hold];unfold allT;rw [List.map_map];have h1 : (lostX h.l).map (List.length ∘ fun x => triesX h (atB (comL h.l c) x.1) x) = (lostX h.l).map fun x => if atB (comL h.l c) x.1 = true then trLen h x else 1 := by
  refine List.map_congr_left fun x hx => ?_;obtain ⟨k, hk⟩ := List.mem_iff_getElem?.1 hx;obtain ⟨t, ht, -, -⟩ := lostX_mem hk
  show (triesX h (atB (comL h.l c) x.1) x).length = _
  cases hb : atB (comL h.l c) x.1 with
  | true => rfl
  | false => exact triesX_one h ht
 rw [h1, prod_gath (fun x : Pl => x.1) _ h.l.length (lostX h.l) (fun x hx => by
  obtain ⟨k, hk⟩ := List.mem_iff_getElem?.1 hx;obtain ⟨t, ht, -, -⟩ := lostX_mem hk;exact (List.getElem?_eq_some_iff.1 ht).1)]
 congr 1
 refine List.map_congr_left fun i _ => ?_;exact gath_if (fun x : Pl => x.1) (trLen h) (lostX h.l) (fun k => atB (comL h.l c) k) i
theorem ways_at (h : Hst) (n : Nat) : ∀ (X : List Pl) (ws : List Nat) (a : Nat → Nat), ws.length = n → (∀ x ∈ X, x.1 < n) → (∀ i, i < n → ws.getD i 0 = capN (a i)) → ∀ i, i < n → (X.foldl (waysF h) ws).getD i 0 = capN (a i * gathN (fun x : Pl => x.1) (trLen h) X i)
 | [], ws, a, hl, hX, ha, i, hi => by
  rw [List.foldl_nil, ha i hi];simp [gathN, prodN]
 | x :: X, ws, a, hl, hX, ha, i, hi => by
  have hx := hX x (by simp);rw [List.foldl_cons];have := ways_at h n X (waysF h ws x) (fun i => if i = x.1 then a i * trLen h x else a i) (by unfold waysF; rw [List.length_set, hl]) (fun y hy => hX y (List.mem_cons_of_mem _ hy)) (fun i hi => by
   unfold waysF;rw [List.getD_eq_getElem?_getD, List.getElem?_set]
   by_cases he : x.1 = i
   ·subst he;rw [if_pos rfl, if_pos (by omega), if_pos rfl, ha x.1 hx, cap_mul]
    rfl
   ·rw [if_neg he, if_neg (fun e => he e.symm), ← List.getD_eq_getElem?_getD, ha i hi]) i hi
  rw [this];unfold gathN;rw [List.filter_cons]
  by_cases he : i = x.1
  ·subst he;rw [if_pos rfl, if_pos (by simp)];simp only [List.map_cons, prodN, Nat.mul_assoc]
  ·rw [if_neg he, if_neg (by simpa using fun e => he e.symm)]
theorem tot_fold (ws : List Nat) : ∀ (l : List Tx) (k a : Nat) (W : Nat → Nat), (∀ i, i < l.length → ws.getD (k + i) 0 = capN (W i)) → (l.zipIdx k).foldl (cntF ws) (capN a) = capN (a * totN (fateL W l))
 | [], k, a, W, _ => by simp [fateL, totN]
 | t :: l, k, a, W, h => by
  have h0 := h 0 (by simp);rw [Nat.add_zero] at h0;have ih := fun b => tot_fold ws l (k + 1) b (fun i => W (i + 1)) (fun i hi => by
   have := h (i + 1) (by simp; omega)
   rwa [show k + (i + 1) = k + 1 + i by omega] at this)
  rw [List.zipIdx_cons, List.foldl_cons, fateL_cons];have hF : cntF ws (capN a) (t, k) = if t.f = 1 then capN (capN a * capN (W 0)) else if t.f = 3 then capN (capN a * (capN (W 0) + 1)) else capN a := by
   unfold cntF;dsimp only;rw [h0]
  rw [hF]
  by_cases h1 : t.f = 1
  ·have h3 : infoB t = false := by simp [infoB, h1]
   rw [if_pos h1, h3, cap_mul, cap_mul', ih];simp [totN, h1, Nat.mul_assoc]
  ·rw [if_neg h1]
   by_cases h3 : t.f = 3
   ·have h4 : infoB t = true := by simpa [infoB] using h3
    rw [if_pos h3, h4, cap_mul, cap_mul1, ih];simp [totN, Nat.mul_assoc]
   ·have h4 : infoB t = false := by simpa [infoB] using h3
    rw [if_neg h3, h4, ih];simp [totN, h1]
def totW (h : Hst) : Nat := totN (fateL (whole h) h.l)
theorem countW_tot {h : Hst} (hm : mayH h = true) : countW h = capN (totW h) := by
 unfold countW;rw [if_pos hm];unfold cntQ totW;have h1 := tot_fold (waysQ h (lostX h.l).length) h.l 0 1 (whole h) (fun i hi => by
  unfold waysQ;rw [List.take_length, Nat.zero_add];have := ways_at h h.l.length (lostX h.l) (List.replicate h.l.length 1) (fun _ => 1) (by simp) (fun x hx => by
   obtain ⟨k, hk⟩ := List.mem_iff_getElem?.1 hx;obtain ⟨t, ht, -, -⟩ := lostX_mem hk;exact (List.getElem?_eq_some_iff.1 ht).1) (fun i hi => by
   rw [List.getD_eq_getElem?_getD, List.getElem?_replicate, if_pos hi]
   rfl) i hi
  rw [this, Nat.one_mul]
  rfl)
 rw [List.take_of_length_le (by simp), Nat.one_mul] at *;exact h1

/-! ### What is tried is tried once, and may be -/
theorem sortV_head (l : List V2) : (sortV ((0, 0) :: l)).headD (0, 0) = (0, 0) ∧ sortV ((0, 0) :: l) ≠ [] := by
 obtain ⟨h1, h2⟩ := sortV_vals ((0, 0) :: l);have hz : ((0, 0) : V2) ∈ sortV ((0, 0) :: l) := (h2 _).2 ⟨by simp, by decide⟩;generalize sortV ((0, 0) :: l) = m at *
 cases m with
 | nil => simp at hz
 | cons y m =>
  refine ⟨?_, by simp⟩;rcases List.mem_cons.1 hz with h | h
  ·exact h.symm
  ·have h3 := (List.pairwise_cons.1 h1.rise).1 _ h;have h4 := (lessV_spec _ _).1 h3;have h5 := (may_spec y).1 h4.1;omega
theorem rising_nodup {l : List V2} (h : RisingV l) : l.Nodup := by
 unfold RisingV at h;refine List.Pairwise.imp ?_ h;intro a b hab e;subst e;rw [lessV_irr] at hab
 cases hab
theorem hit_fresh {h : Hst} (hm : mayH h = true) {k : Nat} {t : Tx} {key : Int} {o : Op4} (ht : h.l[k]? = some t) (ho : o ∈ t.ops) (hh : hitO key o = true) : (o.vk, o.vn) ≠ ((1, (freshN h.l key : Int)) : V2) := by
 intro e;have e2 := congrArg Prod.snd e;dsimp only at e2;have hn := fresh_not (key := key) (may_ops hm).1 (may_ops hm).2.1;have : wroteN h.l key (freshN h.l key : Int) = true := by
  unfold wroteN;refine List.any_eq_true.2 ⟨t, List.mem_of_getElem? ht, List.any_eq_true.2 ⟨o, ho, ?_⟩⟩;unfold hitO at hh;unfold hitN;simp only [Bool.and_eq_true, decide_eq_true_eq] at hh ⊢;exact ⟨hh.1, hh.2, e2⟩
 rw [this] at hn
 cases hn
theorem hit_kind {h : Hst} (hm : mayH h = true) {k : Nat} {t : Tx} {key : Int} {o : Op4} (ht : h.l[k]? = some t) (ho : o ∈ t.ops) (hh : hitO key o = true) : okV (o.vk, o.vn) = true := by
 unfold hitO at hh;simp only [Bool.and_eq_true] at hh;have := ((may_ops hm).2.2 t (List.mem_of_getElem? ht) o ho).2.2.2 hh.1;unfold okV;simp [this]
theorem triesX_good {h : Hst} (hm : mayH h = true) {x : Pl} {t : Tx} (ht : h.l[x.1]? = some t) (b : Bool) : triesX h b x ≠ [] ∧ (triesX h b x).Nodup ∧ (∀ v ∈ triesX h b x, okV v = true) ∧ (triesX h b x).headD (0, 0) = firstP h b x := by
 unfold triesX firstP;rw [ht];dsimp only;unfold triesO firstX
 cases b with
 | false =>
  simp [okV]
 | true =>
  rw [if_pos rfl, if_pos rfl]
  cases hl : leftW x.2.2.key (t.ops.take x.2.1) with
  | some v =>
   obtain ⟨o, ho, hh, rfl⟩ := leftW_mem hl;have ho' := List.mem_of_mem_take ho;have h1 := hit_fresh hm ht ho' hh;have h2 := hit_kind hm ht ho' hh;refine ⟨by simp, ?_, ?_, rfl⟩
   ·simp only [List.nodup_cons, List.mem_singleton, List.not_mem_nil, not_false_eq_true, List.nodup_nil, and_true];exact h1
   ·intro v hv;rcases List.mem_cons.1 hv with rfl | hv
    ·exact h2
    ·rcases List.mem_cons.1 hv with rfl | hv
     ·simp [okV]
     ·cases hv
  | none =>
   obtain ⟨h1, h2⟩ := sortV_head (leftL (x.1 : Int) x.2.2.key h.l);obtain ⟨h3, h4⟩ := sortV_vals (valsO (x.1 : Int) x.2.2.key h.l);have hv : ∀ v ∈ sortV (valsO (x.1 : Int) x.2.2.key h.l), v ≠ ((1, (freshN h.l x.2.2.key : Int)) : V2) ∧ okV v = true := by
    intro v hv;rcases List.mem_cons.1 ((h4 v).1 hv).1 with rfl | h5
    ·exact ⟨by simp, by decide⟩
    ·obtain ⟨k, t', ht', hf⟩ := leftL_mem h5;obtain ⟨-, -, o, ho, hh, rfl⟩ := forT_mem hf;exact ⟨hit_fresh hm ht' ho hh, hit_kind hm ht' ho hh⟩
   refine ⟨by simp, ?_, ?_, ?_⟩
   ·rw [List.nodup_append];refine ⟨rising_nodup h3.rise, by simp, ?_⟩;intro a ha b hb;rw [List.mem_singleton] at hb;subst hb;exact (hv a ha).1
   ·intro v hvm;rcases List.mem_append.1 hvm with h5 | h5
    ·exact (hv v h5).2
    ·rw [List.mem_singleton] at h5;subst h5;simp [okV]
   ·show (sortV ((0, 0) :: leftL (x.1 : Int) x.2.2.key h.l) ++ _).headD (0, 0) = (0, 0)
    generalize sortV ((0, 0) :: leftL (x.1 : Int) x.2.2.key h.l) = m at *
    cases m with
    | nil => exact absurd rfl h2
    | cons y m => exact h1
theorem allT_good {h : Hst} (hm : mayH h = true) (c : List Bool) : ∀ vs ∈ allT h c, vs ≠ [] ∧ vs.Nodup ∧ ∀ v ∈ vs, okV v = true := by
 intro vs hv;unfold allT at hv;obtain ⟨x, hx, rfl⟩ := List.mem_map.1 hv;obtain ⟨k, hk⟩ := List.mem_iff_getElem?.1 hx;obtain ⟨t, ht, -, -⟩ := lostX_mem hk;have := triesX_good hm ht (atB (comL h.l c) x.1);exact ⟨this.1, this.2.1, this.2.2.1⟩
theorem allT_heads {h : Hst} (hm : mayH h = true) (c : List Bool) : headsL (0, 0) (allT h c) = firstL h c := by
 unfold headsL allT firstL;rw [List.map_map];refine List.map_congr_left fun x hx => ?_;obtain ⟨k, hk⟩ := List.mem_iff_getElem?.1 hx;obtain ⟨t, ht, -, -⟩ := lostX_mem hk;exact (triesX_good hm ht (atB (comL h.l c) x.1)).2.2.2

/-! ### All worlds, in order -/
def oneN (h : Hst) (c : List Bool) : Nat := ((allT h c).map List.length).foldl (fun n x => capN (n * x)) 1
theorem oneN_eq (h : Hst) (c : List Bool) : oneN h c = capN (holdN (fateL (whole h) h.l) c) := by
 unfold oneN;have := cap_prod ((allT h c).map List.length) 1;rw [Nat.one_mul, ways_prod] at this;exact this
def rcntQ (h : Hst) (m : Nat) : Nat := ((List.range m).map fun m => oneN h (bitsN (infosN h) m)).foldl (fun n x => capN (n + x)) 0
theorem rcntQ_succ (h : Hst) (m : Nat) : rcntQ h (m + 1) = capN (rcntQ h m + oneN h (bitsN (infosN h) m)) := by
 unfold rcntQ;rw [List.range_succ, List.map_append, List.foldl_append]
 rfl
theorem cap_sums {α : Type} (F : α → Nat) : ∀ l : List α, capN (sumN (l.map fun x => capN (F x))) = capN (sumN (l.map F))
 | [] => rfl
 | x :: l => by
  simp only [List.map_cons, sumN];rw [cap_add, ← cap_add', cap_sums F l, cap_add']
theorem rcount_eq {h : Hst} (hm : mayH h = true) : rcntQ h (2 ^ infosN h) = countW h := by
 rw [countW_tot hm];unfold rcntQ totW;have h1 := cap_sum ((List.range (2 ^ infosN h)).map fun m => oneN h (bitsN (infosN h) m)) 0;rw [Nat.zero_add] at h1;have h2 : (fun m => oneN h (bitsN (infosN h) m)) = fun m => capN (holdN (fateL (whole h) h.l) (bitsN (infosN h) m)) := by funext m; exact oneN_eq h _
 rw [h2] at h1 ⊢;rw [cap_sums fun m => holdN (fateL (whole h) h.l) (bitsN (infosN h) m)] at h1;have h3 := tot_bits (fateL (whole h) h.l);rw [fate_info] at h3;unfold infosN at h1 ⊢;rw [h3] at h1;exact h1
open Go.RowKit
theorem lit_go {w0 w : World} (e : TypeId) (size : Nat) (OW : Only [] w0 w) :
  Only [] w (w.alloc (.cells #[] e)) ∧ Only [] w0 (w.alloc (.cells #[] e)) ∧ (w.alloc (.cells #[] e)).ownsRow w0.heap.size e size (.slice (some ⟨w.heap.size, 0, none⟩) 0 0) 0 [] :=
 have OS : Only [] w (w.alloc (.cells #[] e)) := (Only.refl [] w).alloc (.cells #[] e)
 ⟨OS, OW.trans OS, World.ownsRow_lit w (e := e) (size := size) #[] 0 OW.size (by unfold maxLen; omega) (by simp)⟩
theorem made_go {w0 w : World} (T : TypeId) (cs : Array Value) (OW : Only [] w0 w) :
  Only [] w (w.alloc (.cells cs T)) ∧ Only [] w0 (w.alloc (.cells cs T)) ∧ Blk (w.alloc (.cells cs T)) w.heap.size T cs ∧ w0.heap.size ≤ w.heap.size :=
 have OS : Only [] w (w.alloc (.cells cs T)) := (Only.refl [] w).alloc (.cells cs T)
 ⟨OS, OW.trans OS, Blk.made w T cs, OW.size⟩
theorem app_go {w0 w wn : World} {e : TypeId} {size g n : Nat} {v : Value} {xs : List Value} (OL : w.ownsRow w0.heap.size e size (.slice (some ⟨g, 0, none⟩) 0 0) 0 []) (OW : Only [] w0 w)
  (OVn : wn.ownsRow w0.heap.size e size v (0 + n) ([] ++ xs)) (hgrow : w.grownBy wn (Value.slice (some ⟨g, 0, none⟩) 0 0).ownBlock) :
  Only (Value.slice (some ⟨g, 0, none⟩) 0 0).ownBlock.toList w wn ∧ Only [] w0 wn ∧ ∃ A c, v = .slice A n c ∧ wn.ownsRow w0.heap.size e size (.slice A n c) n xs := by
 have OG := only_grown hgrow;rw [Nat.zero_add, List.nil_append] at OVn;obtain ⟨A, c, rfl, -, -, -, -⟩ := own_row OVn;exact ⟨OG, OW.step OG (fun i hi hl => by have := (OL.lt i (by simpa using hi)).1; omega), A, c, rfl, OVn⟩
open Go.Lib hiding intOf
attribute [local go_sem ↓] Go.wp_at_zero Go.wp_at_succ
theorem rinfos_any (A0 A1 A2 : Option Addr) (n0 n1 n2 c0 c1 c2 B : Nat) (h : Hst) (w : World) (hg : LRow w B A2 h.l) (hn2 : h.l.length = n2) (hM : n2 ≤ 1000) :
  Calls Tryz.prog 53 #[hval A0 A1 A2 n0 n1 n2 c0 c1 c2] w fun e w' =>
   ∃ A c, (e = .returned (.slice A (whichL (fun t => decide (t.f = 3)) h.l).length c) ∧ Row w' w'.heap.size A ((whichL (fun t => decide (t.f = 3)) h.l).map (Value.int .i64))) ∧ Only [] w w' := by
 unfold hval;obtain ⟨i0, hi, hz0, hz1, hz2⟩ := info_parts info_int;have HG := Hd hg;have HN2 := Hd hn2;have HO := Hd (((Only.refl [] w).alloc (.cells #[.slice A0 n0 c0, .slice A1 n1 c1, .slice A2 n2 c2] 25)).alloc (.cells #[] 3));have HB := Hd ((Blk.made w 25 #[.slice A0 n0 c0, .slice A1 n1 c1, .slice A2 n2 c2]).alloc (.cells #[] 3));have HV := Hd (World.ownsRow_lit (w.alloc (.cells #[.slice A0 n0 c0, .slice A1 n1 c1, .slice A2 n2 c2] 25)) (e := 3) (size := 1) #[] 0 (Nat.le_refl _) (by unfold maxLen; omega) rfl);rw [World.size_alloc] at HV;clear hg hn2;obtain ⟨q, hq⟩ : ∃ q : Tx → Bool, q = fun t => decide (t.f = 3) := ⟨_, rfl⟩;rw [← hq];have HQ := Hd hq;clear hq;go_enter Tryz.func53, Tryz.ntmps53;go_wp2_with fail
 go_loopw [3, 4] (fun V iv wr => ∃ k : Nat, iv = .int .i64 k ∧ k ≤ n2 ∧ Hid (wr.ownsRow (w.heap.size + 1) 3 1 V (whichL q (h.l.take k)).length ((whichL q (h.l.take k)).map (Value.int .i64))) ∧ Hid (Blk wr w.heap.size 25 #[.slice A0 n0 c0, .slice A1 n1 c1, .slice A2 n2 c2]) ∧ Hid (Only [] w wr)) (fun _ iv _ => n2 - (intOf iv).toNat)
 case atStart => exact ⟨0, rfl, by omega, HV, HB, HO⟩
 case round =>
  obtain ⟨k, rfl, hk, hV, hB, hO⟩ := hrel;clear HV HB HO;have hsz := hO.out.size;have lB := hB.out.lt;have b2 := hB.out.at_ 2;simp at b2
  by_cases hlt : k < n2
  ·obtain ⟨x, hx⟩ : ∃ x, h.l[k]? = some x := ⟨_, List.getElem?_eq_getElem (by rw [HN2.out]; exact hlt)⟩;obtain ⟨b, off, A', cp, rfl, -, hbw, hT, hOk⟩ := HG.out.at_ hx;obtain ⟨a0, a1, a2⟩ := hT.only hO.out hbw (by simp);have HWT := Hd (which_take (p := q) hx);have hwl := which_le q (h.l.take k);rw [List.length_take] at hwl;obtain ⟨s, f, ops⟩ := x;dsimp only at a0 a1 a2;have h01 : (k : Int) < (n2 : Int) := by omega
   have hk0 : (0 : Int) ≤ (k : Int) := Int.natCast_nonneg _;have hwk : IntKind.i64.wrap ((k : Int) + 1) = (k : Int) + 1 := IntWalk.i64_in _ (by omega);have hbr : b < wr.heap.size := by omega
   have HQX : Hid (q ⟨s, f, ops⟩ = decide (f = 3)) := Hd (by rw [HQ.out]);clear hT hOk hx a2
   by_cases hf : f = 3
   ·have HE : Hid (whichL q (h.l.take (k + 1)) = whichL q (h.l.take k) ++ [(k : Int)]) := Hd (by rw [HWT.out, HQX.out, decide_eq_true hf]; simp);subst hf;go_wp2_with (at_builtin; refine wpList_append_row _ rfl (.tmp 20) (.tmp 22) _ rfl (w.heap.size + 1) 3 i0 _ 1 8 Tryz.underlying30 hi hz0 hz1 hz2 rfl (by omega) _ _ _ rfl (own_only hV.out ((Only.refl [] _).alloc _) (by simp)) (wr.heap.size + 1) (some ⟨wr.heap.size, 0, none⟩) 1 1 [.int .i64 (k : Int)] rfl rfl (row_lit wr 3 #[.int .i64 (k : Int)]) (by simp [Value.oneCell']) (by unfold maxLen; omega) (by omega) (by simp; omega) ?_; intro v4 w4 hown4 hgrow hat)
    have hb1 := hB.out.alloc (.cells #[.int .i64 (k : Int)] 3);have hv1 := own_only hV.out ((Only.refl [] wr).alloc (.cells #[.int .i64 (k : Int)] 3)) (by simp);have REL : w4.ownsRow (w.heap.size + 1) 3 1 v4 (whichL q (h.l.take (k + 1))).length ((whichL q (h.l.take (k + 1))).map (Value.int .i64)) ∧ Blk w4 w.heap.size 25 #[.slice A0 n0 c0, .slice A1 n1 c1, .slice (some ⟨b, off, none⟩) n2 c2] ∧ Only [] w w4 := by
     refine ⟨?_, (only_grown hgrow).blk hb1 (own_apart hv1 hb1 (by decide)), (hO.out.alloc _).step (only_grown hgrow) (fun i hi hl => own_new hV.out (S := []) i hi (by omega))⟩;rw [HE.out]
     simpa using hown4
    have HREL := Hd REL;clear REL hown4 lB b2 hb1 hv1;go_wp2
    go_roundw
    case rel => first | exact ⟨k + 1, by go_num, by omega, Hd HREL.out.1, Hd HREL.out.2.1, Hd HREL.out.2.2⟩ | exact ⟨_, ⟨k + 1, by go_num, by omega, Hd HREL.out.1, Hd HREL.out.2.1, Hd HREL.out.2.2⟩, rfl⟩
    case measure => simp [intOf]; omega
   ·have HE : Hid (whichL q (h.l.take (k + 1)) = whichL q (h.l.take k)) := Hd (by rw [HWT.out, HQX.out, decide_eq_false hf]; simp);have hf1 : (f == 3) = false := by simpa using hf
    clear hf;go_wp2
    go_roundw
    case rel => exact ⟨k + 1, by go_num, by omega, Hd (by rw [HE.out]; exact hV.out), hB, hO⟩
    case measure => simp [intOf]; omega
  ·have hkn : k = n2 := by omega
   subst hkn;have hd2 : decide ((k : Int) < (k : Int)) = false := by simp
   have hVV := hV.out;rw [List.take_of_length_le (by rw [HN2.out]; exact Nat.le_refl _)] at hVV;obtain ⟨A, c, rfl, -, -, -, hR⟩ := own_row hVV;have HR := Hd hR;clear hV hVV hR;go_wp2
   go_ret
   first | exact ⟨⟨_, ⟨_, rfl⟩, HR.out⟩, hO.out⟩ | exact ⟨_, _, ⟨rfl, HR.out⟩, hO.out⟩
theorem made_vals (n : Nat) : madeCells #[.int .i64 0, .int .i64 0] (n * 2) = (edgeC (List.replicate n (0, 0))).toArray := by
 apply Array.ext_getElem?
 intro j;rw [List.getElem?_toArray (xs := edgeC (List.replicate n (0, 0)))];have hl : (edgeC (List.replicate n ((0, 0) : V2))).length = n * 2 := by rw [edgeC_len, List.length_replicate]
 by_cases hj : j < n * 2
 ·have h1 : j / 2 < n := by omega
  have h2 : (List.replicate n ((0, 0) : V2))[j / 2]? = some (0, 0) := by rw [List.getElem?_replicate, if_pos h1]
  have h3 := edgeC_get _ _ _ h2;have h4 : (edgeC (List.replicate n ((0, 0) : V2)))[j]? = some (.int .i64 0) := by
   rcases Nat.mod_two_eq_zero_or_one j with h5 | h5
   ·rw [show j = j / 2 * 2 by omega]; exact h3.1
   ·rw [show j = j / 2 * 2 + 1 by omega]; exact h3.2
  rw [h4];have h6 : j % 2 < 2 := Nat.mod_lt _ (by omega);rcases Nat.mod_two_eq_zero_or_one j with h5 | h5 <;> simp [madeCells, hj, h5]
 ·rw [List.getElem?_eq_none (l := edgeC (List.replicate n (0, 0))) (by omega)];simp [madeCells];omega
theorem make_vals (n : Nat) (hn : n ≤ 100000) (w : World) : (Instr.makeSlice 33 (.int .i64 (n : Int)) (.int .i64 (n : Int))).run Tryz.prog w = .ok (.slice (some ⟨w.heap.size, 0, none⟩) n n) (w.alloc (.cells (edgeC (List.replicate n (0, 0))).toArray 38)) := by
 obtain ⟨i0, hi, hz0, hz1, hz2⟩ := info_parts info_val;have := run_make (P := Tryz.prog) w 33 38 i0 _ Tryz.underlying33 hi hz0 .i64 .i64 (n : Int) (n : Int) (by omega) (by omega) (by rw [hz2]; omega) (by omega);rw [this, hz1];simp [made_vals, Value.cells]
theorem own_vals {w : World} {g n B : Nat} {l : List V2} (h : Blk w g 38 (edgeC l).toArray) (hl : l.length = n) (hn : n ≤ 100000) (hB : B ≤ g) : w.ownsRow B 38 2 (.slice (some ⟨g, 0, none⟩) n n) n (edgeC l) := by
 have e := edgeC_len l;rw [hl] at e;refine ⟨e, .inr ⟨g, n, (edgeC l).toArray, rfl, hB, h, Nat.le_refl _, by unfold maxLen; omega, by simp [e], ?_⟩⟩
 show List.take (n * 2) (edgeC l) = _
 rw [List.take_of_length_le (by omega)]
theorem fill_set {l : List V2} {n k : Nat} {y : V2} (hl : l.length = n) (hy : l[k]? = some y) : (l.take k ++ List.replicate (n - k) (0, 0)).set k y = l.take (k + 1) ++ List.replicate (n - (k + 1)) (0, 0) := by
 have hk := (List.getElem?_eq_some_iff.1 hy).1;have ht : (l.take k).length = k := by rw [List.length_take]; omega
 rw [List.set_append_right _ _ (by omega), ht, Nat.sub_self, show n - k = n - (k + 1) + 1 by omega, List.replicate_succ, List.set_cons_zero, List.take_add_one, hy, List.append_assoc]
 rfl
theorem rbegin16_any (A0 A1 A2 Ac : Option Addr) (n0 n1 n2 nc c0 c1 c2 cc B Bc : Nat) (h : Hst) (c : List Bool) (w : World) (hg : HIn w B A0 A1 A2 n0 n1 n2 h) (hm : mayH h = true) (hc : Row w Bc Ac (c.map Value.bool)) (hcl : c.length = nc) (hci : (whichL infoB h.l).length = nc) :
  Calls Tryz.prog 70 #[hval A0 A1 A2 n0 n1 n2 c0 c1 c2, .slice Ac nc cc] w fun e w' => ∃ V V', (e = .returned (.agg #[V, V']) ∧ w'.ownsRow w.heap.size 4 1 V nc (c.map Value.bool) ∧ w'.ownsRow w.heap.size 38 2 V' (firstL h c).length (edgeC (firstL h c))) ∧ Only [] w w' := by
 obtain ⟨i0, hi, hz0, hz1, hz2⟩ := info_parts info_bl;have hn2 : n2 ≤ 40 := by rw [← hg.n2]; exact (may_ops hm).1
 have HLS := Hd (fun w' (O : Only [] w w') => rlost_any A0 A1 A2 n0 n1 n2 c0 c1 c2 B h w' (hg.same O).at_.r2 hg.n2 (by omega) hg.sm.no);have HTR := Hd (fun (Ac Al : Option Addr) (nl cc cl Bc : Nat) w' (O : Only [] w w') (hc' : Row w' Bc Ac (c.map Value.bool)) => rtries16_any A0 A1 A2 Ac Al n0 n1 n2 nc nl c0 c1 c2 cc cl B Bc h c w' (hg.same O) hm hc' hcl hci);have hnc : nc ≤ 1000 := by
  have h1 := which_le infoB h.l;have h2 := hg.sm.nl;omega
 have HLN := Hd (lostX_len (may_ops hm).1 (may_ops hm).2.1);have HHD : Hid (∀ (k : Nat) (vs : List V2), (allT h c)[k]? = some vs → ∃ y r, vs = y :: r ∧ (firstL h c)[k]? = some y) := Hd (fun k vs hv => by
  have h1 := (allT_good hm c vs (List.mem_of_getElem? hv)).1;have h2 : (firstL h c)[k]? = some (vs.headD (0, 0)) := by rw [← allT_heads hm, headsL, List.getElem?_map, hv]; rfl
  cases vs with
  | nil => exact absurd rfl h1
  | cons y r => exact ⟨y, r, rfl, h2⟩)
 have HFL := Hd (firstL_len h c);have HAL := Hd (allT_len h c);have HCR := Hd hc;have HCL := Hd hcl;rw [lostP_eq] at HLS;obtain ⟨nl, hnl⟩ : ∃ nl, (lostX h.l).length = nl := ⟨_, rfl⟩;rw [hnl] at HLN HFL HAL;rw [List.length_map, hnl] at HLS;have hnl4 := HLN.out;have hmk := make_vals nl (by omega);unfold hval at *;clear hg hm hc hnl hci;have HO1 := Hd (((Only.refl [] w).alloc (.cells #[.slice A0 n0 c0, .slice A1 n1 c1, .slice A2 n2 c2] 25)).alloc (.cells #[.slice none 0 0, .slice none 0 0] 51));have HB1 := Hd ((Blk.made w 25 #[.slice A0 n0 c0, .slice A1 n1 c1, .slice A2 n2 c2]).alloc (.cells #[.slice none 0 0, .slice none 0 0] 51));have HR1 := Hd (Blk.made (w.alloc (.cells #[.slice A0 n0 c0, .slice A1 n1 c1, .slice A2 n2 c2] 25)) 51 #[.slice none 0 0, .slice none 0 0]);simp only [World.size_alloc] at HR1;go_enter Tryz.func70, Tryz.ntmps70;go_upto_region 1 with (fail)
 generalize ((w.alloc (.cells #[.slice A0 n0 c0, .slice A1 n1 c1, .slice A2 n2 c2] 25)).alloc (.cells #[.slice none 0 0, .slice none 0 0] 51)) = w1 at *;generalize hgr : w.heap.size + 1 = gr at *;generalize hgg : w.heap.size = g at *;have hgw1 : g ≤ w1.heap.size := by have := HO1.out.size; omega
 refine rg1 [] [] w1 ?_;have OW : Only [] w1 w1.drew := (Only.refl [] w1).drew;generalize hwz : w1.drew = wz at *;clear hwz;refine tQ 1 (h := ?_);refine trd (i := 3) (v := ?_) 0 ?_ ?_;rotate_left
 ·(intro wq hSw; obtain ⟨lb_H, y0, y1, y2⟩ := Bk3 (hSw.blk HB1.out (by simp)); simp at y0 y1 y2; clear hSw; go_simp; try with_reducible rfl)
 try simp only [tdz]
 apply cut_5_0_2 (fun w g0 cy5 c4 gm g8 Ay5 A4 => (Only [] w1 w) ∧ (w.ownsRow w1.heap.size 4 1 (.slice Ay5 nc cy5) nc (c.map Value.bool)) ∧ (Blk w gm 38 ((edgeC (List.replicate nl (0, 0))).toArray)) ∧ (w1.heap.size ≤ gm) ∧ (Blk w g8 51 #[.slice none 0 0, .slice none 0 0]) ∧ (w1.heap.size ≤ g8))
 intro HST0_2_4_6_8
 apply cut_4_0_2 (fun w g0 cy5 c4 g8 Ay5 A4 => (Only [] w1 w) ∧ (w.ownsRow w1.heap.size 4 1 (.slice Ay5 nc cy5) nc (c.map Value.bool)) ∧ (Blk w g8 51 #[.slice none 0 0, .slice none 0 0]) ∧ (w1.heap.size ≤ g8))
 intro HST0_2_4_8
 apply cut_4_0_2 (fun w g0 cy5 c4 gm Ay5 A4 => (Only [] w1 w) ∧ (w.ownsRow w1.heap.size 4 1 (.slice Ay5 nc cy5) nc (c.map Value.bool)) ∧ (Blk w gm 38 ((edgeC (List.replicate nl (0, 0))).toArray)) ∧ (w1.heap.size ≤ gm))
 intro HST0_2_4_6
 apply cut_3_0_1 (fun w g0 cy5 g8 Ay5 => (Only [] w1 w) ∧ (w.ownsRow w1.heap.size 4 1 (.slice Ay5 nc cy5) nc (c.map Value.bool)) ∧ (Blk w g8 51 #[.slice none 0 0, .slice none 0 0]) ∧ (w1.heap.size ≤ g8))
 intro HST0_2_8
 apply cut_3_0_2 (fun w g0 cy5 c4 Ay5 A4 => (Only [] w1 w) ∧ (w.ownsRow w1.heap.size 4 1 (.slice Ay5 nc cy5) nc (c.map Value.bool)))
 intro HST0_2_4
 apply cut_2_0 (fun w g0 g8 => (Only [] w1 w) ∧ (w.ownsRow w1.heap.size 4 1 (.slice (some ⟨g0, 0, none⟩) 0 0) 0 []) ∧ (Blk w g8 51 #[.slice none 0 0, .slice none 0 0]) ∧ (w1.heap.size ≤ g8))
 intro HST0_8
 apply cut_2_0_1 (fun w g0 cy5 Ay5 => (Only [] w1 w) ∧ (w.ownsRow w1.heap.size 4 1 (.slice Ay5 nc cy5) nc (c.map Value.bool)))
 intro HST0_2
 apply cut_1_0 (fun w g8 => (Only [] w1 w) ∧ (Blk w g8 51 #[.slice none 0 0, .slice none 0 0]) ∧ (w1.heap.size ≤ g8))
 intro HST8
 apply cut_1_0 (fun w g0 => (Only [] w1 w) ∧ (w.ownsRow w1.heap.size 4 1 (.slice (some ⟨g0, 0, none⟩) 0 0) 0 []))
 intro HST0
 ·refine timed_forks (l := [0, 8]) (by kernel_rfl) (by simp) (fork_cons ⟨_, rfl, fun K hK => ?_⟩ (fork_cons ⟨_, rfl, fun K hK => ?_⟩ (fork_nil)))
  ·go_simp;obtain ⟨OS, OWn, OLn⟩ := lit_go 4 1 OW;generalize wz.alloc (.cells #[] 4) = wn at *;generalize wz.heap.size = g0 at *;refine kOut hK (OWn) (h := ?_);clear hK K;exact HST0 wn g0 ⟨OWn, OLn⟩
  ·go_simp;obtain ⟨OS, OWn, BLn, hszn⟩ := made_go 51 (#[.slice none 0 0, .slice none 0 0]) OW;generalize wz.alloc (.cells #[.slice none 0 0, .slice none 0 0] 51) = wn at *;generalize wz.heap.size = g8 at *;refine kOut hK (OWn) (h := ?_);clear hK K;exact HST8 wn g8 ⟨OWn, BLn, hszn⟩
 ·intro wz g0 ⟨OW, OL0⟩;refine timed_forks (l := [2, 8]) (by kernel_rfl) (by simp) (fork_cons ⟨_, rfl, fun K hK => ?_⟩ (fork_cons ⟨_, rfl, fun K hK => ?_⟩ (fork_nil)))
  ·refine step_append_row _ rfl (.tmp 8) (.tmp 9) 49 rfl w1.heap.size 4 i0 _ 1 1 Tryz.underlying49 hi hz0 hz1 hz2 rfl (by omega) _ 0 [] (by rfl) OL0 _ _ (nc) (cc) (c.map Value.bool) (by rfl) (by rw [List.length_map, HCL.out, Nat.mul_one]) (HCR.out.only (HO1.out.trans OW) (by simp)) (fun u hu => by simp at hu; rcases hu with ⟨-, rfl⟩ | ⟨-, rfl⟩ <;> rfl) (by unfold maxLen; omega) (by omega) OW.size ?_;intro y5 wn OVn hgrow _;obtain ⟨OG, OWn, Ay5, cy5, rfl, OVm⟩ := app_go OL0 OW OVn hgrow;refine kOut hK (OWn) (h := ?_);clear hK K;exact HST0_2 wn g0 cy5 Ay5 ⟨OWn, OVm⟩
  ·go_simp;obtain ⟨OS, OWn, BLn, hszn⟩ := made_go 51 (#[.slice none 0 0, .slice none 0 0]) OW;generalize wz.alloc (.cells #[.slice none 0 0, .slice none 0 0] 51) = wn at *;generalize wz.heap.size = g8 at *;refine kOut hK (OWn) (h := ?_);clear hK K;exact HST0_8 wn g0 g8 ⟨OWn, own_only OL0 OS (by simp), BLn, hszn⟩
 ·intro wz g8 ⟨OW, BL8, GE8⟩;refine tst (i := 0) fun K hK => ?_;go_simp;obtain ⟨OS, OWn, OLn⟩ := lit_go 4 1 OW;generalize wz.alloc (.cells #[] 4) = wn at *;generalize wz.heap.size = g0 at *;refine kOut hK (OWn) (h := ?_);clear hK K;exact HST0_8 wn g0 g8 ⟨OWn, OLn, OS.blk BL8 (by simp), GE8⟩
 ·intro wz g0 cy5 Ay5 ⟨OW, OV2⟩;refine timed_forks (l := [4, 8]) (by kernel_rfl) (by simp) (fork_cons ⟨_, rfl, fun K hK => ?_⟩ (fork_cons ⟨_, rfl, fun K hK => ?_⟩ (fork_nil)))
  ·go_simp;refine (HLS.out _ (HO1.out.trans OW)).mono ?_;rintro e wl ⟨A4, c4, ⟨rfl, -⟩, O4⟩;have OS := O4;have OWn := OW.trans OS;refine kOut hK (OWn) (h := ?_);clear hK K;refine tQ 5 (h := ?_);exact HST0_2_4 wl g0 cy5 c4 Ay5 A4 ⟨OWn, own_only OV2 OS (by simp)⟩
  ·go_simp;obtain ⟨OS, OWn, BLn, hszn⟩ := made_go 51 (#[.slice none 0 0, .slice none 0 0]) OW;generalize wz.alloc (.cells #[.slice none 0 0, .slice none 0 0] 51) = wn at *;generalize wz.heap.size = g8 at *;refine kOut hK (OWn) (h := ?_);clear hK K;exact HST0_2_8 wn g0 cy5 g8 Ay5 ⟨OWn, own_only OV2 OS (by simp), BLn, hszn⟩
 ·intro wz g0 g8 ⟨OW, OL0, BL8, GE8⟩;refine tst (i := 2) fun K hK => ?_;refine step_append_row _ rfl (.tmp 8) (.tmp 9) 49 rfl w1.heap.size 4 i0 _ 1 1 Tryz.underlying49 hi hz0 hz1 hz2 rfl (by omega) _ 0 [] (by rfl) OL0 _ _ (nc) (cc) (c.map Value.bool) (by rfl) (by rw [List.length_map, HCL.out, Nat.mul_one]) (HCR.out.only (HO1.out.trans OW) (by simp)) (fun u hu => by simp at hu; rcases hu with ⟨-, rfl⟩ | ⟨-, rfl⟩ <;> rfl) (by unfold maxLen; omega) (by omega) OW.size ?_;intro y5 wn OVn hgrow _;obtain ⟨OG, OWn, Ay5, cy5, rfl, OVm⟩ := app_go OL0 OW OVn hgrow;refine kOut hK (OWn) (h := ?_);clear hK K;exact HST0_2_8 wn g0 cy5 g8 Ay5 ⟨OWn, OVm, OG.blk BL8 (own_apart OL0 BL8 (by decide)), GE8⟩
 ·intro wz g0 cy5 c4 Ay5 A4 ⟨OW, OV2⟩;refine timed_forks (l := [6, 8]) (by kernel_rfl) (by simp) (fork_cons ⟨_, rfl, fun K hK => ?_⟩ (fork_cons ⟨_, rfl, fun K hK => ?_⟩ (fork_nil)))
  ·go_simp;obtain ⟨OS, OWn, BLn, hszn⟩ := made_go 38 ((edgeC (List.replicate nl (0, 0))).toArray) OW;generalize wz.alloc (.cells ((edgeC (List.replicate nl (0, 0))).toArray) 38) = wn at *;generalize wz.heap.size = gm at *;refine kOut hK (OWn) (h := ?_);clear hK K;refine tQ 7 (h := ?_);exact HST0_2_4_6 wn g0 cy5 c4 gm Ay5 A4 ⟨OWn, own_only OV2 OS (by simp), BLn, hszn⟩
  ·go_simp;obtain ⟨OS, OWn, BLn, hszn⟩ := made_go 51 (#[.slice none 0 0, .slice none 0 0]) OW;generalize wz.alloc (.cells #[.slice none 0 0, .slice none 0 0] 51) = wn at *;generalize wz.heap.size = g8 at *;refine kOut hK (OWn) (h := ?_);clear hK K;exact HST0_2_4_8 wn g0 cy5 c4 g8 Ay5 A4 ⟨OWn, own_only OV2 OS (by simp), BLn, hszn⟩
 ·intro wz g0 cy5 g8 Ay5 ⟨OW, OV2, BL8, GE8⟩;refine tst (i := 4) fun K hK => ?_;go_simp;refine (HLS.out _ (HO1.out.trans OW)).mono ?_;rintro e wl ⟨A4, c4, ⟨rfl, -⟩, O4⟩;have OS := O4;have OWn := OW.trans OS;refine kOut hK (OWn) (h := ?_);clear hK K;refine tQ 5 (h := ?_);exact HST0_2_4_8 wl g0 cy5 c4 g8 Ay5 A4 ⟨OWn, own_only OV2 OS (by simp), OS.blk BL8 (by simp), GE8⟩
 ·intro wz g0 cy5 c4 gm Ay5 A4 ⟨OW, OV2, BL6, GE6⟩;refine tst (i := 8) fun K hK => ?_;go_simp;obtain ⟨OS, OWn, BLn, hszn⟩ := made_go 51 (#[.slice none 0 0, .slice none 0 0]) OW;generalize wz.alloc (.cells #[.slice none 0 0, .slice none 0 0] 51) = wn at *;generalize wz.heap.size = g8 at *;refine kOut hK (OWn) (h := ?_);clear hK K;exact HST0_2_4_6_8 wn g0 cy5 c4 gm g8 Ay5 A4 ⟨OWn, own_only OV2 OS (by simp), OS.blk BL6 (by simp), GE6, BLn, hszn⟩
 ·intro wz g0 cy5 c4 g8 Ay5 A4 ⟨OW, OV2, BL8, GE8⟩;refine tst (i := 6) fun K hK => ?_;go_simp;obtain ⟨OS, OWn, BLn, hszn⟩ := made_go 38 ((edgeC (List.replicate nl (0, 0))).toArray) OW;generalize wz.alloc (.cells ((edgeC (List.replicate nl (0, 0))).toArray) 38) = wn at *;generalize wz.heap.size = gm at *;refine kOut hK (OWn) (h := ?_);clear hK K;refine tQ 7 (h := ?_);exact HST0_2_4_6_8 wn g0 cy5 c4 gm g8 Ay5 A4 ⟨OWn, own_only OV2 OS (by simp), BLn, hszn, OS.blk BL8 (by simp), GE8⟩
 -- behind all of the crowd
 intro wz g0 cy5 c4 gm g8 Ay5 A4 ⟨OW, OV2, BL6, GE6, BL8, GE8⟩;refine tst (i := 9) fun K hK => ?_;refine wp_store_blk 51 (.tmp 5) (.tmp 15) rfl g8 51 _ #[.slice Ay5 nc cy5, .slice (some ⟨gm, 0, none⟩) nl nl] rfl rfl BL8 rfl (by kernel_rfl) (by kernel_rfl) ?_;intro w9 b9 o9;have OW9 := OW.step o9 (fun i hi hl => by simp at hi; omega);refine kOut hK (OW9) (h := ?_);clear hK K;refine tdn ?_;have HO9 := Hd (HO1.out.trans OW9);have HB9 := Hd (OW9.blk HB1.out (by simp));have HR9 := Hd (OW9.blk HR1.out (by simp));have HS9 := Hd b9;have hgm8 : gm ≠ g8 := BL6.apart BL8 (by decide);have hm9 := o9.blk BL6 (by simp; omega);have hgm9 : gm < w9.heap.size := hm9.lt;have hgmg : g ≤ gm := by omega
 have HM9 := Hd (own_vals (n := nl) (B := g) hm9 (by simp) (by omega) hgmg);have hc9 := owb OV2 BL8 o9;have HC9 := Hd (own_low hc9 hgw1);have HTR9 := Hd (HTR.out Ay5 (some ⟨gm, 0, none⟩) nl cy5 nl _ w9 HO9.out (own_row_at hc9).1);have hg9 : g ≤ w9.heap.size := by have := HO9.out.size; omega
 clear OW OW9 o9 b9 BL6 BL8 OV2 hm9 hc9 HO1 HB1 HR1 HTR HLS hmk;have lHB_ := HB9.out.lt;have y0 := HB9.out.at_ 0;have y1 := HB9.out.at_ 1;have y2 := HB9.out.at_ 2;have lHS_ := HS9.out.lt;have s0 := HS9.out.at_ 0;have s1 := HS9.out.at_ 1;simp at y0 y1 y2 s0 s1;go_wp2_with fail
 refine (HTR9.out).mono ?_;rintro e w10 ⟨VT, ⟨xs, rfl, hxs, hT, hX⟩, O10⟩;rw [HAL.out] at hT;obtain ⟨AT, cT, rfl, -, -, -, -⟩ := own_row hT;clear lHB_ lHS_ y0 y1 y2 s0 s1;have HT10 := Hd hT;have HX10 := Hd hX;have HXS := Hd hxs;clear HB9;have HO10 := Hd (HO9.out.trans O10);have HR10 := Hd (O10.blk HR9.out (by simp));have HS10 := Hd (O10.blk HS9.out (by simp));have HM10 := Hd (own_only HM9.out O10 (by simp));have HC10 := Hd (own_only HC9.out O10 (by simp));clear HO9 HR9 HS9 HM9 HC9;clear O10 HTR9 hT hX hxs;obtain ⟨g9, hg9e⟩ : ∃ g9, g9 = w9.heap.size := ⟨_, rfl⟩;rw [← hg9e] at HT10 HX10 hgm9 hg9;clear hg9e;go_wp2_with fail
 go_loopw [7] (fun iv wr => ∃ k : Nat, iv = .int .i64 (k : Int) ∧ k ≤ nl ∧ Hid (wr.ownsRow g 38 2 (.slice (some ⟨gm, 0, none⟩) nl nl) nl (edgeC ((firstL h c).take k ++ List.replicate (nl - k) (0, 0)))) ∧ Hid (VVown wr g9 xs) ∧ Hid (wr.ownsRow g9 33 1 (.slice AT nl cT) nl (xs.map slC)) ∧ Hid (wr.ownsRow g 4 1 (.slice Ay5 nc cy5) nc (c.map Value.bool)) ∧ Hid (Blk wr g8 51 #[.slice Ay5 nc cy5, .slice (some ⟨gm, 0, none⟩) nl nl]) ∧ Hid (Blk wr gr 51 #[.slice none 0 0, .slice none 0 0]) ∧ Hid (Only [] w wr)) (fun iv _ => nl - (intOf iv).toNat)
 case atStart => exact ⟨0, rfl, by omega, by simpa using HM10, HX10, HT10, HC10, HS10, HR10, HO10⟩
 case round =>
  obtain ⟨k, rfl, hk, hM, hX, hT, hC, hS, hR, hO⟩ := hrel;clear HM10 HX10 HT10 HC10 HS10 HR10 HO10
  by_cases hlt : k < nl
  ·have hxl : xs.length = nl := by have := congrArg List.length HXS.out; rw [List.length_map, HAL.out] at this; exact this
   obtain ⟨x, hx⟩ : ∃ x, xs[k]? = some x := ⟨_, List.getElem?_eq_getElem (by omega)⟩;obtain ⟨y, r, hxy, hfy⟩ := HHD.out k x.l (by rw [← HXS.out, List.getElem?_map, hx]; rfl);have hXx := hX.out x (List.mem_of_getElem? hx);obtain ⟨bT, oT, rfl, -, hbT, hcT⟩ := (own_row_at hT.out).1.open_ (k := k) (by rw [List.length_map]; omega);have HT0 := Hd (hcT k _ (by rw [List.getElem?_map, hx]; rfl));have hbTg : bT ≠ gm := by have := (hT.out.lt bT rfl).1; omega
   have hxA : x.A = none ∨ ∃ bx, x.A = some ⟨bx, 0, none⟩ := by
    rcases hXx.2 with ⟨e, -⟩ | ⟨g1, cp1, cu1, e, -⟩
    ·exact .inl (by unfold slC at e; injection e)
    ·exact .inr ⟨g1, by unfold slC at e; injection e⟩
   have HXrow := Hd (own_row_at hXx).1;have HXlt := Hd (fun q hq => (hXx.lt q hq).1);have HFS : Hid (((firstL h c).take k ++ List.replicate (nl - k) (0, 0)).set k y = (firstL h c).take (k + 1) ++ List.replicate (nl - (k + 1)) (0, 0)) := Hd (fill_set HFL.out hfy);unfold slC at HT0 HXlt;obtain ⟨xl, xA, xc⟩ := x;dsimp only at *;subst hxy;obtain ⟨bx, ox, rfl, -, hbx, hcx⟩ := HXrow.out.open_ (k := 0) (by simp [edgeC]);rw [List.length_cons] at HT0 HXlt;obtain rfl : ox = 0 := by
    rcases hxA with e | ⟨b', e⟩
    ·cases e
    ·injection e with e; injection e
   have z0 : wr.cell? ⟨bx, 0, none⟩ = some (.int .i64 y.1) := by have := hcx 0 (.int .i64 y.1) (by simp [edgeC]); simpa using this
   have z1 : wr.cell? ⟨bx, 1, none⟩ = some (.int .i64 y.2) := by have := hcx 1 (.int .i64 y.2) (by simp [edgeC]); simpa using this
   have HZ0 := Hd z0;have HZ1 := Hd z1;have hbxg : bx ≠ gm := by have := HXlt.out bx rfl; omega
   have hol : k * 2 + 2 ≤ (edgeC ((firstL h c).take k ++ List.replicate (nl - k) (0, 0))).length := by
    have : (edgeC ((firstL h c).take k ++ List.replicate (nl - k) (0, 0))).length = nl * 2 := hM.out.1;omega
   have hk0 : (0 : Int) ≤ (k : Int) := Int.natCast_nonneg _;have h01 : (k : Int) < (nl : Int) := by omega
   have hr1 : (0 : Int) < ((r.length + 1 : Nat) : Int) := by omega
   have hr2 : 0 < r.length + 1 := by omega
   have hwk : IntKind.i64.wrap ((k : Int) + 1) = (k : Int) + 1 := IntWalk.i64_in _ (by omega);obtain ⟨y1, y2⟩ := y;dsimp only at HZ0 HZ1;generalize r.length + 1 = q at *;clear hcT hcx z0 z1 hfy hXx HXrow HXlt hxA hx;go_upto_region 6 with (fail)
   have RD0 := Hd fun wq (hSw : Only [gm] wr wq) => aI (Bk2 (hSw.blk hS.out (by simp; omega))) (aI ((hSw.cell (p := ⟨bT, oT + k, none⟩) hbT (by simp; omega)).trans HT0.out) (aI ((hSw.cell (p := ⟨bx, 0, none⟩) hbx (by simp; omega)).trans HZ0.out) ((hSw.cell (p := ⟨bx, 1, none⟩) hbx (by simp; omega)).trans HZ1.out)));refine rg1 [] [gm] wr ?_;have OW : Only [] wr wr.drew := (Only.refl [] wr).drew;generalize wr.drew = wz at *;refine tQ 0 (h := trq 1 0 RD0 (h := tQ 2 (h := tQ 3 (h := tQ 4 (h := tQ 5 (h := trq 6 0 RD0 (h := tQ 7 (h := trq 8 0 RD0 (h := tQ 9 (h := ?_))))))))));refine tst (i := 10) fun K hK => ?_;refine wp_store_mid 38 (.tmp 34) (.tmp 33) rfl gm (k * 2) #[.int .i64 y1, .int .i64 y2] rfl rfl (own_there (own_only hM.out OW (by simp)) rfl hol) (by kernel_rfl) (by kernel_rfl) ?_;have OD : Only [gm] wz (wz.setCells gm (k * 2) [.int .i64 y1, .int .i64 y2]) := setCells_only gm _ _ _ _ _ (Only.refl _ _) (fun _ => by simp);have h9 := own_set2 (own_only hM.out OW (by simp)) rfl hol (.int .i64 y1) (.int .i64 y2);rw [vals_set, HFS.out] at h9;have OE := (OW.wide (T := [gm]) (fun i hi => by cases hi)).trans OD;refine kOut hK (OE) (h := ?_);clear hK K;refine tdn ?_;have HM9 := Hd h9;have HX9 : Hid (VVown _ g9 xs) := Hd (hX.out.only OE (fun x hx q hq hm => by simp at hm; have := ((hX.out x hx).lt q hq).1; omega));have HT9 := Hd (own_only hT.out OE (fun q hq hm => by simp at hm; have := (hT.out.lt q hq).1; omega));have HC9 := Hd (own_only hC.out OE (own_two hC.out hM.out (by decide)));have HS9 := Hd (OE.blk hS.out (by simp; omega));have HR9 := Hd (OE.blk hR.out (by have := own_apart hM.out hR.out (by decide); simp [Value.ownBlock] at this ⊢; exact this));have HO9 := Hd (hO.out.step OE (fun i hi hl => by simp at hi; omega));clear OW OD OE h9 hM hX hT hC hS hR hO HFS hol HT0 HZ0 HZ1;generalize (wz.setCells gm (k * 2) [.int .i64 y1, .int .i64 y2]) = w8 at *;go_wp2
   go_roundw
   case rel => exact ⟨k + 1, by go_num, by omega, HM9, HX9, HT9, HC9, HS9, HR9, HO9⟩
   case measure => simp [intOf]; omega
  ·have hkn : k = nl := by omega
   subst hkn;have hd2 : decide ((k : Int) < (k : Int)) = false := by simp
   have hMM := hM.out;rw [List.take_of_length_le (by rw [HFL.out]; exact Nat.le_refl _), Nat.sub_self, List.replicate_zero, List.append_nil] at hMM;have HMM := Hd hMM;clear hM hMM;have lS := hS.out.lt;have s0 := hS.out.at_ 0;have s1 := hS.out.at_ 1;simp at s0 s1;have HFLL := Hd HFL.out;go_wp2_with (refine wpList_store_blk rfl 51 (.tmp 4) (.tmp 35) rfl gr 51 _ #[.slice Ay5 nc cy5, .slice (some ⟨gm, 0, none⟩) k k] rfl rfl hR.out rfl (by kernel_rfl) (by kernel_rfl) ?_; intro w9 b9 o9; have HB9 := Hd b9; have HN9 := Hd o9; clear b9 o9)
   have hna := own_apart HMM.out hR.out (by decide);have hnc := own_apart hC.out hR.out (by decide);have HMZ := Hd (own_only HMM.out HN9.out (fun x hx hm => by simp at hm; subst hm; exact hna (by rw [hx]; simp)));have HCZ := Hd (own_only hC.out HN9.out (fun x hx hm => by simp at hm; subst hm; exact hnc (by rw [hx]; simp)));have HOZ := Hd (hO.out.step HN9.out (fun i hi hl => by simp at hi; omega));refine bodyPost_ret (results_row1 Tryz.results70 _ _ gr 51 #[.slice Ay5 nc cy5, .slice (some ⟨gm, 0, none⟩) k k] _ rfl HB9.out Tryz.underlying51 rfl (by kernel_rfl)) rfl ?_;exact ⟨_, _, ⟨rfl, by rw [hgg]; exact HCZ.out, by rw [hgg, HFLL.out]; exact HMZ.out⟩, HOZ.out⟩
theorem rfirst16_any (A0 A1 A2 : Option Addr) (n0 n1 n2 c0 c1 c2 B : Nat) (h : Hst) (w : World) (hg : HIn w B A0 A1 A2 n0 n1 n2 h) (hm : mayH h = true) :
  Calls Tryz.prog 36 #[hval A0 A1 A2 n0 n1 n2 c0 c1 c2] w fun e w' => ∃ V V', (e = .returned (.agg #[V, V']) ∧ w'.ownsRow w.heap.size 4 1 V (firstWC h).length ((firstWC h).map Value.bool) ∧ w'.ownsRow w.heap.size 38 2 V' (firstWL h).length (edgeC (firstWL h))) ∧ Only [] w w' := by
 have hn2 : n2 ≤ 40 := by rw [← hg.n2]; exact (may_ops hm).1
 have HIN := Hd (fun w' (O : Only [] w w') => rinfos_any A0 A1 A2 n0 n1 n2 c0 c1 c2 B h w' (hg.same O).at_.r2 hg.n2 (by omega));have HBE := Hd (fun (Ac : Option Addr) (nc Bc : Nat) (c : List Bool) w' (O : Only [] w w') (hc : Row w' Bc Ac (c.map Value.bool)) (hcl : c.length = nc) (hci : (whichL infoB h.l).length = nc) => rbegin16_any A0 A1 A2 Ac n0 n1 n2 nc c0 c1 c2 nc B Bc h c w' (hg.same O) hm hc hcl hci);have HNI : Hid ((whichL infoB h.l).length ≤ 1000) := Hd (by
  have h1 := which_le infoB h.l;have h2 := hg.sm.nl;omega)
 have HO1 := Hd (((Only.refl [] w).alloc (.cells #[.slice A0 n0 c0, .slice A1 n1 c1, .slice A2 n2 c2] 25)).alloc (.cells #[.slice none 0 0, .slice none 0 0] 51));have HB1 := Hd ((Blk.made w 25 #[.slice A0 n0 c0, .slice A1 n1 c1, .slice A2 n2 c2]).alloc (.cells #[.slice none 0 0, .slice none 0 0] 51));have HR1 := Hd (Blk.made (w.alloc (.cells #[.slice A0 n0 c0, .slice A1 n1 c1, .slice A2 n2 c2] 25)) 51 #[.slice none 0 0, .slice none 0 0]);simp only [World.size_alloc] at HR1;unfold firstWC firstWL infosN;rw [if_pos hm, if_pos hm];unfold hval infoB at *;clear hg hm;obtain ⟨ni, hni⟩ : ∃ ni, (whichL (fun t : Tx => decide (t.f = 3)) h.l).length = ni := ⟨_, rfl⟩;rw [hni] at HIN HBE HNI ⊢;have hmk := make_bools ni HNI.out;clear hni;go_enter Tryz.func36, Tryz.ntmps36;go_upto_region 1 with (fail)
 generalize ((w.alloc (.cells #[.slice A0 n0 c0, .slice A1 n1 c1, .slice A2 n2 c2] 25)).alloc (.cells #[.slice none 0 0, .slice none 0 0] 51)) = w1 at *;generalize hgr : w.heap.size + 1 = gr at *;generalize hgg : w.heap.size = g at *;have RD0 := Hd fun wq (hSw : Only [] w1 wq) => Bk3 (hSw.blk HB1.out (by simp));refine rg1 [6] [] w1 ?_;have OW : Only [] w1 w1.drew := (Only.refl [] w1).drew;generalize w1.drew = wz at *;refine trq 0 0 RD0 (h := trq 1 0 RD0 (h := ?_));refine tst (i := 2) fun K hK => ?_;go_simp;refine (HIN.out _ (HO1.out.trans OW)).mono ?_;rintro e wa ⟨Ai, ci, ⟨rfl, -⟩, Oa⟩;have OW1 := OW.trans Oa;clear Oa;refine kOut hK (OW1) (h := ?_);clear hK K;refine tQ 3 (h := ?_);refine tst (i := 4) fun K hK => ?_;go_simp;have BV := Blk.made wa 4 (boolsC (List.replicate ni false));have hgm : g ≤ wa.heap.size := by have := (HO1.out.trans OW1).size; omega
 have OW2 := OW1.alloc (.cells (boolsC (List.replicate ni false)) 4);generalize wa.alloc (.cells (boolsC (List.replicate ni false)) 4) = wb at *;generalize wa.heap.size = gm at *;refine kOut hK (OW2) (h := ?_);clear hK K;refine tst (i := 5) fun K hK => ?_;go_simp;refine (HBE.out (some ⟨gm, 0, none⟩) ni _ (List.replicate ni false) _ (HO1.out.trans OW2) (row_bools BV) (by simp) rfl).mono ?_;rintro e wc ⟨V, V2, ⟨rfl, hv, hv2⟩, Oc⟩;have OW3 := OW2.trans Oc;have hgb : g ≤ wb.heap.size := by have := (HO1.out.trans OW2).size; omega
 have HV3 := Hd (own_low hv hgb);have HX3 := Hd (own_low hv2 hgb);obtain ⟨AV, cV, rfl, -, -, -, -⟩ := own_row hv;obtain ⟨AX, cX, rfl, -, -, -, -⟩ := own_row hv2;have hr3 := OW3.blk HR1.out (by simp);clear Oc hv hv2;refine kOut hK (OW3) (h := ?_);clear hK K;refine tst (i := 6) fun K hK => ?_;refine wp_store_blk 51 (.tmp 2) (.tmp 8) rfl gr 51 _ #[.slice AV ni cV, .slice AX (firstL h (List.replicate ni false)).length cX] rfl rfl hr3 rfl (by kernel_rfl) (by kernel_rfl) ?_;intro w9 b9 o9;have OW9 := OW3.trans (Only.refl [] wc);have HB9 := Hd b9;have HN9 := Hd o9;have OZ := (HO1.out.trans OW3).step o9 (fun i hi hl => by simp at hi; omega);refine hK.out _ _ (timed_over (by kernel_rfl) (timed_nil)) ?_;clear hK K;(try simp only [tdz]);refine tdn ?_;have HV9 := Hd (owb HV3.out hr3 HN9.out);have HX9 := Hd (owb HX3.out hr3 HN9.out);have HO9 := Hd OZ;go_wp2
 refine bodyPost_ret (results_row1 Tryz.results36 _ _ gr 51 #[.slice AV ni cV, .slice AX (firstL h (List.replicate ni false)).length cX] _ rfl HB9.out Tryz.underlying51 rfl (by kernel_rfl)) rfl ?_;exact ⟨_, _, ⟨rfl, by rw [hgg, List.length_replicate]; exact HV9.out, by rw [hgg]; exact HX9.out⟩, HO9.out⟩
end Go.Proofs.YtjfbeeogiejopaaGreatDoor
