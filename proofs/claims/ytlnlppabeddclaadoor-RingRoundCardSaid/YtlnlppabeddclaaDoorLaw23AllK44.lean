/- Parts. -/
import Derived.Test.YtlnlppabeddclaaDoorLaw23AllK42
import Derived.Test.YtlnlppabeddclaaDoorLaw23AllK43
set_option maxRecDepth 10000
set_option maxHeartbeats 16000000
set_option linter.unusedVariables false
set_option linter.unusedSimpArgs false
namespace Go.Proofs.YtlnlppabeddclaaDoor
open Go.RowKit
attribute [local go_sem ↓] Go.wp_at_zero Go.wp_at_succ
def waitT (n : Nat) (l : List (Int × Int)) (S : List Int) (v : Nat) : Int := if (v : Int) ∈ S then -1 else (((List.range n).filter fun a : Nat => edB l a v && !decide ((a : Int) ∈ S)).length : Nat)
theorem wait_free {n : Nat} {l : List (Int × Int)} (w : WfE n l) (S : List Int) (v : Nat) : waitT n l S v = 0 ↔ freeB l S (v : Int) = true := by
 rw [free_iff];unfold waitT
 by_cases h : (v : Int) ∈ S
 ·rw [if_pos h];exact ⟨fun k => by omega, fun k => absurd h k.1⟩
 ·rw [if_neg h]
  constructor
  ·intro k;have k0 := List.filter_eq_nil_iff.1 (List.length_eq_zero_iff.1 (show ((List.range n).filter fun a : Nat => edB l a v && !decide ((a : Int) ∈ S)).length = 0 by omega));refine ⟨h, fun x hx => ?_⟩;obtain ⟨a, b, h1, h2, h3⟩ := w _ hx;injection h1 with h4 h5;subst h4;have := k0 a (List.mem_range.2 h2);rw [(ed_iff l a v).2 hx] at this
   simpa using this
  ·rintro ⟨-, k⟩;have : ((List.range n).filter fun a : Nat => edB l a v && !decide ((a : Int) ∈ S)) = [] := by
    rw [List.filter_eq_nil_iff];intro a _
    cases he : edB l a v
    ·simp
    ·have := k a ((ed_iff l a v).1 he);simp [this]
   rw [this]
   rfl
def waitJ (n : Nat) (l : List (Int × Int)) (S : List Int) (v : Nat) (J : List Int) (u : Nat) : Int := if (u : Int) ∈ S ∨ u = v then -1 else waitT n l S u - if (u : Int) ∈ J then 1 else 0
theorem waitJ_nil (n : Nat) (l : List (Int × Int)) (S : List Int) (v u : Nat) : waitJ n l S v [] u = if u = v then -1 else waitT n l S u := by
 unfold waitJ
 by_cases h1 : u = v
 ·rw [if_pos (.inr h1), if_pos h1]
 ·rw [if_neg h1]
  by_cases h2 : (u : Int) ∈ S
  ·rw [if_pos (.inl h2)];unfold waitT;rw [if_pos h2]
  ·rw [if_neg (by rintro (h | h) <;> contradiction)];simp
theorem filter_drop {p q : Nat → Bool} {v : Nat} : ∀ (L : List Nat), L.Nodup → (∀ x ∈ L, q x = (p x && !decide (x = v))) → (L.filter p).length = (L.filter q).length + if v ∈ L ∧ p v = true then 1 else 0
 | [], _, _ => by simp
 | x :: L, hd, h => by
  obtain ⟨h1, h2⟩ := List.nodup_cons.1 hd;have ih := filter_drop (p := p) (q := q) (v := v) L h2 fun y hy => h y (List.mem_cons_of_mem _ hy);have hx := h x List.mem_cons_self
  by_cases e : x = v
  ·subst e;rw [if_neg (fun k => h1 k.1)] at ih;have hq : q x = false := by rw [hx]; simp
   rw [List.filter_cons, List.filter_cons, hq]
   cases hp : p x
   ·rw [if_neg (by decide), if_neg (by decide), ih, if_neg (fun k => by cases k.2)]
   ·rw [if_pos rfl, if_neg (by decide), List.length_cons, ih, if_pos ⟨List.mem_cons_self, rfl⟩]
  ·have hq : q x = p x := by rw [hx]; simp [e]
   have hm : (v ∈ x :: L ∧ p v = true) ↔ (v ∈ L ∧ p v = true) := by
    rw [List.mem_cons];exact ⟨fun k => ⟨k.1.resolve_left (fun e2 => e e2.symm), k.2⟩, fun k => ⟨.inr k.1, k.2⟩⟩
   rw [List.filter_cons, List.filter_cons, hq]
   cases hp : p x
   ·rw [if_neg (by decide), if_neg (by decide), ih]
    by_cases hk : v ∈ L ∧ p v = true
    ·rw [if_pos hk, if_pos (hm.2 hk)]
    ·rw [if_neg hk, if_neg fun k => hk (hm.1 k)]
   ·rw [if_pos rfl, if_pos rfl, List.length_cons, List.length_cons, ih]
    by_cases hk : v ∈ L ∧ p v = true
    ·rw [if_pos hk, if_pos (hm.2 hk)]; try omega
    ·rw [if_neg hk, if_neg fun k => hk (hm.1 k)]; try omega
theorem waitJ_all {n : Nat} {l : List (Int × Int)} (w : WfE n l) {S J : List Int} {v : Nat} (hv : (v : Int) ∉ S) (hvn : v < n) (hJ : ∀ u : Nat, (u : Int) ∈ J ↔ edR l v u) (u : Nat) : waitJ n l S v J u = waitT n l (S ++ [(v : Int)]) u := by
 unfold waitJ
 by_cases h : (u : Int) ∈ S ∨ u = v
 ·rw [if_pos h];unfold waitT;rw [if_pos];rcases h with h | h
  ·exact List.mem_append_left _ h
  ·rw [h]; simp
 ·rw [if_neg h];have hu : (u : Int) ∉ S := fun k => h (.inl k);have huv : u ≠ v := fun k => h (.inr k);have hu2 : (u : Int) ∉ S ++ [(v : Int)] := fun k => by
   rcases List.mem_append.1 k with k | k
   ·exact hu k
   ·simp at k; omega
  unfold waitT;rw [if_neg hu, if_neg hu2];have := filter_drop (p := fun a : Nat => edB l a u && !decide ((a : Int) ∈ S)) (q := fun a : Nat => edB l a u && !decide ((a : Int) ∈ S ++ [(v : Int)])) (v := v) (List.range n) List.nodup_range (fun x _ => by
   have : decide ((x : Int) ∈ S ++ [(v : Int)]) = (decide ((x : Int) ∈ S) || decide (x = v)) := by
    rw [Bool.eq_iff_iff, Bool.or_eq_true, decide_eq_true_eq, decide_eq_true_eq, decide_eq_true_eq, List.mem_append, List.mem_singleton];exact or_congr_right (by omega)
   rw [this, Bool.not_or, Bool.and_assoc])
  rw [this];have hp : (v ∈ List.range n ∧ (edB l v u && !decide ((v : Int) ∈ S)) = true) ↔ (u : Int) ∈ J := by
   rw [hJ, ← ed_iff, Bool.and_eq_true];simp [hv, hvn]
  by_cases hk : (u : Int) ∈ J
  ·rw [if_pos hk, if_pos (hp.2 hk)]; omega
  ·rw [if_neg hk, if_neg fun k => hk (hp.1 k)]; omega
theorem waitJ_step {n : Nat} {l : List (Int × Int)} {S J : List Int} {v : Nat} {x : Nat} (hxS : (x : Int) ∉ S) (hxv : x ≠ v) (hx : (x : Int) ∉ J) (u : Nat) : (if u = x then waitJ n l S v J x - 1 else waitJ n l S v J u) = waitJ n l S v (J ++ [(x : Int)]) u := by
 by_cases e : u = x
 ·subst e;unfold waitJ;have hn : ¬ ((u : Int) ∈ S ∨ u = v) := by rintro (h | h) <;> contradiction
  rw [if_pos rfl, if_neg hn, if_neg hn, if_neg hx, if_pos (by simp)];omega
 ·rw [if_neg e];unfold waitJ;have : ((u : Int) ∈ J ++ [(x : Int)]) ↔ (u : Int) ∈ J := by
   simp;omega
  by_cases h : (u : Int) ∈ S ∨ u = v
  ·rw [if_pos h, if_pos h]
  ·rw [if_neg h, if_neg h]
   by_cases hk : (u : Int) ∈ J
   ·rw [if_pos hk, if_pos (this.2 hk)]
   ·rw [if_neg hk, if_neg fun k => hk (this.1 k)]
theorem waitJ_eq {n : Nat} {l : List (Int × Int)} {S J : List Int} {v x : Nat} (hxS : (x : Int) ∉ S) (hxv : x ≠ v) (hx : (x : Int) ∉ J) : waitJ n l S v J x = waitT n l S x := by
 unfold waitJ;rw [if_neg (by rintro (h | h) <;> contradiction), if_neg hx];omega
theorem waitT_range (n : Nat) (l : List (Int × Int)) (S : List Int) (v : Nat) : -1 ≤ waitT n l S v ∧ waitT n l S v ≤ n := by
 unfold waitT
 split
 ·omega
 ·have : ((List.range n).filter fun a : Nat => edB l a v && !decide ((a : Int) ∈ S)).length ≤ n := Nat.le_trans (List.length_filter_le _ _) (by simp);omega
def firstF (n : Nat) (f : Nat → Int) : Int := match (List.range n).find? fun i => decide (f i = 0) with
 | some i => (i : Int)
 | none => -1
theorem first_next {n : Nat} {l : List (Int × Int)} (w : WfE n l) (S : List Int) : firstF n (waitT n l S) = (nextT n l S).getD (-1) := by
 unfold firstF nextT;have : (fun i : Nat => decide (waitT n l S i = 0)) = fun a : Nat => freeB l S (a : Int) := by
  funext i
  rw [Bool.eq_iff_iff, decide_eq_true_eq];exact wait_free w S i
 rw [this]
 cases (List.range n).find? fun a : Nat => freeB l S (a : Int) <;> rfl
theorem firstF_at {n k : Nat} {f : Nat → Int} (hk : k < n) (h0 : f k = 0) (hj : ∀ j, j < k → f j ≠ 0) : firstF n f = k := by
 unfold firstF;rw [List.find?_range_eq_some.2 ⟨by simp [h0], List.mem_range.2 hk, fun j h => by simp [hj j h]⟩]
theorem firstF_no {n : Nat} {f : Nat → Int} (hj : ∀ j, j < n → f j ≠ 0) : firstF n f = -1 := by
 unfold firstF;rw [List.find?_eq_none.2 fun q hq => by simp [hj q (List.mem_range.1 hq)]]
theorem tfirst_any (n b : Nat) (f : Nat → Int) (w : World) (hB : Blk w b 3 (intsF n f)) (hn : n ≤ 1000) :
  Calls Tryd.prog 29 #[.slice (some ⟨b, 0, none⟩) n n] w fun e w' => e = .returned (.int .i64 (firstF n f)) ∧ w = w' := by
 have HB := Hd hB;clear hB;go_enter Tryd.func29, Tryd.ntmps29;go_wp2_with fail
 go_loopw [7] (fun iv wr => ∃ k : Nat, iv = .int .i64 (k : Int) ∧ k ≤ n ∧ Hid (∀ j, j < k → f j ≠ 0) ∧ Hid (w = wr)) (fun iv _ => n - (intOf iv).toNat)
 case atStart => exact ⟨0, rfl, by omega, Hd (fun j h => by omega), Hd rfl⟩
 case round =>
  obtain ⟨k, rfl, hk, hno, hw⟩ := hrel;obtain rfl := hw.out
  by_cases hlt : k < n
  ·have c0 := (HB.out.at_ k).trans (intsF_at f hlt);have lb := HB.out.lt;have h01 : (k : Int) < (n : Int) := by omega
   have hk0 : (0 : Int) ≤ (k : Int) := Int.natCast_nonneg _;have hwk : IntKind.i64.wrap ((k : Int) + 1) = (k : Int) + 1 := IntWalk.i64_in _ (by omega);obtain ⟨z, hz⟩ : ∃ z, z = f k := ⟨_, rfl⟩;rw [← hz] at c0;have HZ := Hd hz;clear hz
   by_cases h0 : z = 0
   ·subst h0;have HE := Hd (firstF_at hlt HZ.out.symm hno.out);go_wp2
    go_ret
    exact ⟨by rw [HE.out]; rfl, rfl⟩
   ·have hb : (z == 0) = false := by simpa using h0
    have HN : Hid (∀ j, j < k + 1 → f j ≠ 0) := Hd (fun j hj => by
     rcases Nat.lt_or_ge j k with h1 | h1
     ·exact hno.out j h1
     ·obtain rfl : j = k := by omega
      rw [← HZ.out];exact h0)
    clear h0;go_wp2
    go_roundw
    case rel => exact ⟨k + 1, by go_num, by omega, HN, Hd trivial⟩
    case measure => simp [intOf]; omega
  ·have hkn : k = n := by omega
   subst hkn;have hd : decide ((k : Int) < (k : Int)) = false := by simp
   have HE := Hd (firstF_no hno.out);go_wp2
   go_ret
   exact ⟨by rw [HE.out]; rfl, rfl⟩
end Go.Proofs.YtlnlppabeddclaaDoor
