/- Parts. -/
import Derived.Test.YtbiclliooidkjaaGreatDoorLaw41AllK20
set_option maxRecDepth 10000
set_option maxHeartbeats 16000000
set_option linter.unusedVariables false
set_option linter.unusedSimpArgs false
namespace Go.Proofs.YtbiclliooidkjaaGreatDoor
open Go.Lib
def mayP (a : Int × Int) : Bool := mayB a.1 a.2
theorem lessB_spec (k m k' m' : Int) : lessBV k m k' m' = true ↔ (k < k' ∨ (k = k' ∧ k = 1 ∧ m < m')) := by
 unfold lessBV
 by_cases h : k = k'
 ·rw [if_pos h]; simp; omega
 ·rw [if_neg h]; simp; omega
theorem may_spec (a : Int × Int) : mayP a = true ↔ (a.1 = 1 ∨ ((a.1 = 0 ∨ a.1 = 2) ∧ a.2 = 0)) := by
 unfold mayP mayB;simp
theorem lessV_spec (a b : Int × Int) : lessV a b = true ↔ mayP a = true ∧ mayP b = true ∧ (a.1 < b.1 ∨ (a.1 = b.1 ∧ a.1 = 1 ∧ a.2 < b.2)) := by
 unfold lessV;rw [Bool.and_eq_true, Bool.and_eq_true, lessB_spec, and_assoc]
 show mayP a = true ∧ mayP b = true ∧ _ ↔ _
 constructor
 ·rintro ⟨ha, hb, h⟩;refine ⟨ha, hb, ?_⟩;rw [may_spec] at ha hb;unfold cK cN at h;rcases ha with ha | ⟨ha | ha, ha2⟩ <;> rcases hb with hb | ⟨hb | hb, hb2⟩ <;> simp [ha, hb] at h ⊢ <;> omega
 ·rintro ⟨ha, hb, h⟩;refine ⟨ha, hb, ?_⟩;rw [may_spec] at ha hb;unfold cK cN;rcases ha with ha | ⟨ha | ha, ha2⟩ <;> rcases hb with hb | ⟨hb | hb, hb2⟩ <;> simp [ha, hb] at h ⊢ <;> omega
theorem lessV_irr (a : Int × Int) : lessV a a = false := by
 cases h : lessV a a with
 | false => rfl
 | true => obtain ⟨_, _, h⟩ := (lessV_spec a a).1 h; omega
theorem lessV_trans {a b c : Int × Int} (h1 : lessV a b = true) (h2 : lessV b c = true) : lessV a c = true := by
 obtain ⟨ha, hb, h1⟩ := (lessV_spec a b).1 h1;obtain ⟨_, hc, h2⟩ := (lessV_spec b c).1 h2;exact (lessV_spec a c).2 ⟨ha, hc, by omega⟩
theorem lessV_asym {a b : Int × Int} (h : lessV a b = true) : lessV b a = false := by
 cases h2 : lessV b a with
 | false => rfl
 | true =>
  have := lessV_trans h h2;rw [lessV_irr] at this
  cases this
theorem lessV_total {a b : Int × Int} (ha : mayP a = true) (hb : mayP b = true) (h1 : lessV a b = false) (h2 : lessV b a = false) : a = b := by
 have n1 : ¬ (a.1 < b.1 ∨ (a.1 = b.1 ∧ a.1 = 1 ∧ a.2 < b.2)) := fun h => by
  rw [(lessV_spec a b).2 ⟨ha, hb, h⟩] at h1
  cases h1
 have n2 : ¬ (b.1 < a.1 ∨ (b.1 = a.1 ∧ b.1 = 1 ∧ b.2 < a.2)) := fun h => by
  rw [(lessV_spec b a).2 ⟨hb, ha, h⟩] at h2
  cases h2
 rw [may_spec] at ha hb;have e1 : a.1 = b.1 := by omega
 have e2 : a.2 = b.2 := by omega
 exact Prod.ext e1 e2
def RisingV (l : List (Int × Int)) : Prop := l.Pairwise fun a b => lessV a b = true
theorem rising_uniqueV : ∀ l m : List (Int × Int), RisingV l → RisingV m → (∀ x, x ∈ l ↔ x ∈ m) → l = m
 | [], [], _, _, _ => rfl
 | [], y :: m, _, _, h => by have := (h y).2 (List.mem_cons_self ..); cases this
 | x :: l, [], _, _, h => by have := (h x).1 (List.mem_cons_self ..); cases this
 | x :: l, y :: m, hl, hm, h => by
  obtain ⟨hx, hl2⟩ := List.pairwise_cons.1 hl;obtain ⟨hy, hm2⟩ := List.pairwise_cons.1 hm;have exy : x = y := by
   rcases List.mem_cons.1 ((h x).1 (List.mem_cons_self ..)) with e | e
   ·exact e
   ·rcases List.mem_cons.1 ((h y).2 (List.mem_cons_self ..)) with e2 | e2
    ·exact e2.symm
    ·have h1 := hy x e;have h2 := hx y e2;rw [lessV_asym h1] at h2
     cases h2
  subst exy;have : l = m := by
   refine rising_uniqueV l m hl2 hm2 fun z => ⟨fun hz => ?_, fun hz => ?_⟩
   ·rcases List.mem_cons.1 ((h z).1 (List.mem_cons_of_mem _ hz)) with e | e
    ·subst e;have := hx z hz;rw [lessV_irr] at this
     cases this
    ·exact e
   ·rcases List.mem_cons.1 ((h z).2 (List.mem_cons_of_mem _ hz)) with e | e
    ·subst e;have := hy z hz;rw [lessV_irr] at this
     cases this
    ·exact e
  rw [this]
def aheadOfV (out : List (Int × Int)) (x : (Int × Int)) : Nat := (out.takeWhile fun y => lessV y x).length
def insV (out : List (Int × Int)) (x : (Int × Int)) : List (Int × Int) :=
 if mayP x = true then (if out[aheadOfV out x]? = some x then out else out.take (aheadOfV out x) ++ x :: out.drop (aheadOfV out x)) else out
def sortV (l : List (Int × Int)) : List (Int × Int) := l.foldl insV []
theorem ahead_splitV (out : List (Int × Int)) (x : (Int × Int)) : out.take (aheadOfV out x) = out.takeWhile (fun y => lessV y x) ∧ out.drop (aheadOfV out x) = out.dropWhile (fun y => lessV y x) := by
 have h := List.takeWhile_append_dropWhile (p := fun y => lessV y x) (l := out);have h1 := congrArg (List.take (out.takeWhile fun y => lessV y x).length) h;have h2 := congrArg (List.drop (out.takeWhile fun y => lessV y x).length) h;rw [List.take_left] at h1;rw [List.drop_left] at h2;exact ⟨h1.symm, h2.symm⟩
structure Vals (out : List (Int × Int)) : Prop where
 rise : RisingV out
 may : ∀ x ∈ out, mayP x = true
theorem vals_nil : Vals [] := ⟨List.Pairwise.nil, fun x h => (by cases h)⟩
theorem drop_headV {p : (Int × Int) → Bool} : ∀ {l : List (Int × Int)} {y : (Int × Int)} {t : List (Int × Int)}, l.dropWhile p = y :: t → p y = false
 | x :: l, y, t, h => by
  by_cases hx : p x = true
  ·rw [List.dropWhile_cons_of_pos hx] at h;exact drop_headV h
  ·rw [List.dropWhile_cons_of_neg hx] at h;obtain ⟨rfl, -⟩ := List.cons.inj h
   simpa using hx
theorem vtake_all {p : (Int × Int) → Bool} : ∀ (l : List (Int × Int)), ∀ y ∈ l.takeWhile p, p y = true
 | x :: l, y, h => by
  by_cases hx : p x = true
  ·rw [List.takeWhile_cons_of_pos hx] at h;rcases List.mem_cons.1 h with rfl | h
   ·exact hx
   ·exact vtake_all l y h
  ·rw [List.takeWhile_cons_of_neg hx] at h
   cases h
theorem ins_vals {out : List (Int × Int)} (h : Vals out) (x : (Int × Int)) : Vals (insV out x) ∧ ∀ y, y ∈ insV out x ↔ y ∈ out ∨ (y = x ∧ mayP x = true) := by
 unfold insV
 by_cases hx : mayP x = true
 ·rw [if_pos hx]
  by_cases he : out[aheadOfV out x]? = some x
  ·rw [if_pos he];refine ⟨h, fun y => ⟨.inl, ?_⟩⟩;rintro (hy | ⟨rfl, -⟩)
   ·exact hy
   ·exact List.mem_of_getElem? he
  ·rw [if_neg he];obtain ⟨h1, h2⟩ := ahead_splitV out x;have happ : out.take (aheadOfV out x) ++ out.drop (aheadOfV out x) = out := List.take_append_drop _ _;have hall := vtake_all (p := fun y => lessV y x) out;rw [← h1] at hall;have hrest : ∀ y ∈ out.drop (aheadOfV out x), lessV x y = true := by
    cases hd : out.drop (aheadOfV out x) with
    | nil => intro y hy; cases hy
    | cons z t =>
     have hz : lessV z x = false := drop_headV (p := fun y => lessV y x) (by rw [← h2]; exact hd);have hzm : z ∈ out := by rw [← happ, hd]; simp
     have hzx : z ≠ x := fun e => he (by
      have : (out.drop (aheadOfV out x))[0]? = some z := by rw [hd]; rfl
      rw [List.getElem?_drop, Nat.add_zero] at this;rw [this, e])
     have hxz : lessV x z = true := by
      cases hc : lessV x z with
      | true => rfl
      | false => exact absurd (lessV_total (h.may z hzm) hx hz hc) hzx
     have hr := h.rise;rw [← happ, hd] at hr;have hr2 := (List.pairwise_append.1 hr).2.1;intro y hy;rcases List.mem_cons.1 hy with rfl | hy
     ·exact hxz
     ·exact lessV_trans hxz ((List.pairwise_cons.1 hr2).1 y hy)
   have hr := h.rise;unfold RisingV at hr;rw [← happ] at hr;obtain ⟨ra, rb, rab⟩ := List.pairwise_append.1 hr;refine ⟨⟨?_, ?_⟩, fun y => ?_⟩
   ·refine List.pairwise_append.2 ⟨ra, List.pairwise_cons.2 ⟨hrest, rb⟩, fun a ha b hb => ?_⟩;rcases List.mem_cons.1 hb with rfl | hb
    ·exact hall a ha
    ·exact rab a ha b hb
   ·intro y hy;rcases List.mem_append.1 hy with hy | hy
    ·exact h.may y (List.mem_of_mem_take hy)
    ·rcases List.mem_cons.1 hy with rfl | hy
     ·exact hx
     ·exact h.may y (List.mem_of_mem_drop hy)
   ·constructor
    ·intro hy;rcases List.mem_append.1 hy with hy | hy
     ·exact .inl (List.mem_of_mem_take hy)
     ·rcases List.mem_cons.1 hy with rfl | hy
      ·exact .inr ⟨rfl, hx⟩
      ·exact .inl (List.mem_of_mem_drop hy)
    ·rintro (hy | ⟨rfl, -⟩)
     ·rw [← happ] at hy;rcases List.mem_append.1 hy with hy | hy
      ·exact List.mem_append.2 (.inl hy)
      ·exact List.mem_append.2 (.inr (List.mem_cons_of_mem _ hy))
     ·exact List.mem_append.2 (.inr (List.mem_cons_self ..))
 ·rw [if_neg hx];refine ⟨h, fun y => ⟨.inl, ?_⟩⟩;rintro (hy | ⟨-, hc⟩)
  ·exact hy
  ·exact absurd hc hx
theorem fold_vals : ∀ (l out : List (Int × Int)), Vals out → Vals (l.foldl insV out) ∧ ∀ y, y ∈ l.foldl insV out ↔ y ∈ out ∨ (y ∈ l ∧ mayP y = true)
 | [], out, h => ⟨h, fun y => by simp⟩
 | x :: l, out, h => by
  obtain ⟨h1, h2⟩ := ins_vals h x;obtain ⟨h3, h4⟩ := fold_vals l (insV out x) h1;refine ⟨h3, fun y => ?_⟩;rw [List.foldl_cons, h4, h2]
  constructor
  ·rintro ((h | ⟨rfl, h⟩) | ⟨h, h'⟩)
   ·exact .inl h
   ·exact .inr ⟨List.mem_cons_self .., h⟩
   ·exact .inr ⟨List.mem_cons_of_mem _ h, h'⟩
  ·rintro (h | ⟨h, h'⟩)
   ·exact .inl (.inl h)
   ·rcases List.mem_cons.1 h with rfl | h
    ·exact .inl (.inr ⟨rfl, h'⟩)
    ·exact .inr ⟨h, h'⟩
theorem sortV_vals (l : List (Int × Int)) : Vals (sortV l) ∧ ∀ y, y ∈ sortV l ↔ y ∈ l ∧ mayP y = true := by
 obtain ⟨h1, h2⟩ := fold_vals l [] vals_nil;exact ⟨h1, fun y => by rw [show sortV l = l.foldl insV [] from rfl, h2]; simp⟩
theorem sortV_unique {l m : List (Int × Int)} (hr : RisingV m) (hm : ∀ y, y ∈ m ↔ y ∈ l ∧ mayP y = true) : m = sortV l :=
 rising_uniqueV m (sortV l) hr (sortV_vals l).1.rise fun y => by rw [hm, (sortV_vals l).2]
end Go.Proofs.YtbiclliooidkjaaGreatDoor
namespace Go.Proofs.YtbiclliooidkjaaGreatDoor
def hitN (key n : Int) (o : Op4) : Bool := o.wr && (decide (o.key = key) && decide (o.vn = n))
def manyW (l : List Tx) (key : Int) : Nat := (whichL (writesB key) l).length
def mostN (l : List Tx) : Nat → Nat
 | 0 => 0
 | k + 1 => max (mostN l k) (manyW l (k : Int))
def mostH (h : Hst) : Nat := if mayH h = true then mostN h.l h.ks.length else 0
theorem manyW_le (l : List Tx) (key : Int) : manyW l key ≤ l.length := which_le _ _
theorem mostN_le (l : List Tx) : ∀ k, mostN l k ≤ l.length
 | 0 => Nat.zero_le _
 | k + 1 => Nat.max_le.2 ⟨mostN_le l k, manyW_le l _⟩
theorem manyW_take {key : Int} {l : List Tx} {k : Nat} {t : Tx} (h : l[k]? = some t) : manyW (l.take (k + 1)) key = manyW (l.take k) key + if writesB key t = true then 1 else 0 := by
 unfold manyW;rw [which_take h, List.length_append]
 by_cases hp : writesB key t = true <;> simp [hp]
open Go.Lib hiding intOf
def prodGo : List Int → Int → Int × Int
 | [], out => (out, 0)
 | x :: r, out => if 0 < x ∧ 4611686018427387904 / x < out then (0, 6) else prodGo r (out * x)
def negB (x : Int) : Bool := decide (x < 0)
def prodR (l : List Int) : Int × Int := if l.any negB = true then (0, 2) else prodGo l 1
def readsT (t : Tx) : Nat := (t.ops.filter fun o => !o.wr).length
def readsN (l : List Tx) : Nat := (l.map readsT).sum
def upL (n : Nat) : List Int := (List.range n).map fun i : Nat => (i : Int) + 1
def bndL (g : Hst) : List Int := List.replicate (infL g).length 2 ++ List.replicate (losL g).length ((mostH g : Int) + 2) ++ List.replicate (readsN g.l) ((mostH g : Int) + 1) ++ upL (g.l.length + 1) ++ [(g.l.length : Int) + 1]
def bndR (h : Hst) (y : Int) : Int × Int := if (byR h y).2 ≠ 0 then (0, (byR h y).2) else prodR (bndL (byR h y).1)
theorem prodGo_step {l : List Int} {k : Nat} {x : Int} (h : l[k]? = some x) (out : Int) : prodGo (l.drop k) out = if 0 < x ∧ 4611686018427387904 / x < out then (0, 6) else prodGo (l.drop (k + 1)) (out * x) := by
 obtain ⟨hi, rfl⟩ := List.getElem?_eq_some_iff.1 h;rw [List.drop_eq_getElem_cons hi, prodGo]
theorem prod_room {x out : Int} (h0 : 0 ≤ out) (hx : 0 ≤ x) (h1 : out ≤ 4611686018427387904) (h : ¬ (0 < x ∧ 4611686018427387904 / x < out)) : 0 ≤ out * x ∧ out * x ≤ 4611686018427387904 := by
 refine ⟨Int.mul_nonneg h0 hx, ?_⟩
 by_cases hp : 0 < x
 ·have h2 : out ≤ 4611686018427387904 / x := by
   by_cases h3 : 4611686018427387904 / x < out
   ·exact absurd ⟨hp, h3⟩ h
   ·omega
  have h4 : out * x ≤ 4611686018427387904 / x * x := Int.mul_le_mul_of_nonneg_right h2 hx;have h5 : 4611686018427387904 / x * x ≤ 4611686018427387904 := Int.ediv_mul_le _ (by omega);omega
 ·obtain rfl : x = 0 := by omega
  simp
theorem readsT_le (t : Tx) : readsT t ≤ t.ops.length := List.length_filter_le _ _
theorem readsN_le : ∀ (l : List Tx), (∀ t ∈ l, t.ops.length ≤ 1000) → readsN l ≤ l.length * 1000
 | [], _ => by simp [readsN]
 | t :: r, h => by
  have h1 := readsN_le r (fun x hx => h x (List.mem_cons_of_mem _ hx));have h2 := readsT_le t;have h3 := h t List.mem_cons_self
  show readsT t + readsN r ≤ _
  rw [List.length_cons];omega
theorem upL_len (n : Nat) : (upL n).length = n := by simp [upL]
theorem upL_succ (n : Nat) : upL (n + 1) = upL n ++ [(n : Int) + 1] := by
 unfold upL;rw [List.range_succ, List.map_append]
 rfl
theorem by_may0 {h : Hst} {y : Int} (e : (byR h y).2 = 0) : mayH (byR h y).1 = true := by
 unfold byR at e ⊢
 by_cases hm : mayH h = true
 ·rw [if_pos hm] at e ⊢
  by_cases h1 : y = 1
  ·rw [if_pos h1];exact kept_may hm
  ·rw [if_neg h1] at e ⊢
   by_cases h2 : y = 2
   ·rw [if_pos h2];exact kept_may hm
   ·rw [if_neg h2] at e
    cases e
 ·rw [if_neg hm] at e
  cases e
theorem infL_may {g : Hst} (h : mayH g = true) : infL g = whichL (fun t => decide (t.f = 3)) g.l := by unfold infL; rw [if_pos h]
theorem losL_may {g : Hst} (h : mayH g = true) : losL g = lostP (plsL g.l) := by unfold losL; rw [if_pos h]
end Go.Proofs.YtbiclliooidkjaaGreatDoor
namespace Go.Proofs.YtbiclliooidkjaaGreatDoor
open Go.RowKit
open Go.Lib hiding intOf
attribute [local go_sem ↓] Go.wp_at_zero Go.wp_at_succ
theorem negask_any (x : Int) (w : World) : Calls Tryz.prog 25 #[.int .i64 x] w fun e w' => e = .returned (.bool (negB x)) ∧ w = w' := by
 unfold negB;go_enter Tryz.func25, Tryz.ntmps25;go_wp2
 go_ret
 exact ⟨rfl, rfl⟩
theorem anyN_take {l : List Int} {k : Nat} {x : Int} (h : l[k]? = some x) : (l.take (k + 1)).any negB = ((l.take k).any negB || negB x) := by
 rw [List.take_add_one, h, List.any_append];simp
theorem intsC_at {l : List Int} {k : Nat} {x : Int} (h : l[k]? = some x) : (l.map (Value.int .i64))[k]? = some (.int .i64 x) := by rw [List.getElem?_map, h]; rfl
theorem negindex_any (A : Option Addr) (m c B : Nat) (l : List Int) (w : World) (hg : Row w B A (l.map (Value.int .i64))) (hm : l.length = m) (hM : m ≤ 10000000) :
  Calls Tryz.prog 39 #[.slice A m c, .func (.func 25) #[] #[]] w fun e w' => ∃ r : Int, (e = .returned (.int .i64 r) ∧ decide (0 ≤ r) = l.any negB) ∧ w = w' := by
 have HG := Hd hg;have HM := Hd hm;have HY := Hd (fun x w' => negask_any x w');clear hg hm;go_enter Tryz.func39, Tryz.ntmps39;go_wp2_with fail
 go_loopw [8] (fun iv wr => ∃ k : Nat, iv = .int .i64 (k : Int) ∧ k ≤ m ∧ Hid ((l.take k).any negB = false) ∧ Hid (w = wr)) (fun iv _ => m - (intOf iv).toNat)
 case atStart => exact ⟨0, rfl, by omega, Hd rfl, Hd rfl⟩
 case round =>
  obtain ⟨k, rfl, hk, hn, hO⟩ := hrel
  by_cases hlt : k < m
  ·obtain ⟨u, hu⟩ : ∃ u, l[k]? = some u := ⟨_, List.getElem?_eq_getElem (by rw [HM.out]; exact hlt)⟩;obtain ⟨b, off, rfl, hbB, hbw, hc⟩ := (show Row wr B A _ from hO.out ▸ HG.out).open_ (k := k) (by rw [List.length_map, HM.out]; exact hlt);have c0 := hc _ _ (intsC_at hu);have h01 : (k : Int) < (m : Int) := by omega
   have hk0 : (0 : Int) ≤ (k : Int) := Int.natCast_nonneg _;have hwk : IntKind.i64.wrap ((k : Int) + 1) = (k : Int) + 1 := IntWalk.i64_in _ (by omega);have HTK := Hd (anyN_take hu);have HTM := Hd (List.mem_of_getElem? hu);have HYU := Hd (HY.out u wr);obtain ⟨d, hd⟩ : ∃ d, negB u = d := ⟨_, rfl⟩;rw [hd] at HTK HYU;have HD := Hd hd;clear hd hu hc;go_wp2_with fail
   refine (HYU.out).mono ?_;rintro e w2 ⟨rfl, rfl⟩
   cases d with
   | true =>
    have HT : Hid (l.any negB = true) := Hd (List.any_eq_true.2 ⟨u, HTM.out, HD.out⟩);go_wp2
    go_ret
    exact ⟨(k : Int), ⟨rfl, by rw [HT.out]; simp⟩, hO.out⟩
   | false =>
    have HN : Hid ((l.take (k + 1)).any negB = false) := Hd (by rw [HTK.out, hn.out]; rfl);go_wp2
    go_roundw
    case rel => exact ⟨k + 1, by go_num, by omega, HN, hO⟩
    case measure => simp [intOf]; omega
  ·obtain rfl : k = m := by omega
   have hd : decide ((k : Int) < (k : Int)) = false := by simp
   have HA : Hid (l.any negB = false) := Hd (by have := hn.out; rwa [List.take_of_length_le (by rw [HM.out]; exact Nat.le_refl _)] at this);go_wp2
   go_ret
   exact ⟨-1, ⟨rfl, by rw [HA.out]; rfl⟩, hO.out⟩
theorem neghas_any (A : Option Addr) (m c B : Nat) (l : List Int) (w : World) (hg : Row w B A (l.map (Value.int .i64))) (hm : l.length = m) (hM : m ≤ 10000000) :
  Calls Tryz.prog 24 #[.slice A m c, .func (.func 25) #[] #[]] w fun e w' => e = .returned (.bool (l.any negB)) ∧ w = w' := by
 have HI := Hd (negindex_any A m c B l w hg hm hM);obtain ⟨b, hb⟩ : ∃ b, l.any negB = b := ⟨_, rfl⟩;rw [hb] at HI ⊢;clear hb hg hm;go_enter Tryz.func24, Tryz.ntmps24;go_wp2_with fail
 refine (HI.out).mono ?_;rintro e w2 ⟨r, ⟨rfl, hr⟩, rfl⟩;go_wp2
 go_ret
 exact ⟨by first | rfl | rw [hr], rfl⟩
theorem any_neg {l : List Int} (h : l.any negB = false) : ∀ x ∈ l, 0 ≤ x := fun x hx => by
 have h1 := List.any_eq_false.1 h x hx;unfold negB at h1;simp at h1;exact h1
theorem bproduct_any (A : Option Addr) (n c B : Nat) (l : List Int) (w : World) (hg : Row w B A (l.map (Value.int .i64))) (hn : l.length = n) (hM : n ≤ 10000000) (hb : ∀ x ∈ l, x ≤ 9223372036854775807) :
  Calls Tryz.prog 10 #[.slice A n c] w fun e w' => e = .returned (.tuple #[.int .i64 (prodR l).1, .int .i64 (prodR l).2]) ∧ w = w' := by
 have HI := Hd (neghas_any A n c B l w hg hn hM);obtain ⟨⟨ra, rb⟩, hr⟩ : ∃ r, prodR l = r := ⟨_, rfl⟩;rw [hr];have HR := Hd hr;have HG := Hd hg;have HN := Hd hn;have HB := Hd hb;dsimp only;obtain ⟨d, hd⟩ : ∃ d, l.any negB = d := ⟨_, rfl⟩;rw [hd] at HI;have HD := Hd hd;clear hr hg hn hb hd;go_enter Tryz.func10, Tryz.ntmps10;go_wp2_with fail
 refine (HI.out).mono ?_;rintro e w1 ⟨rfl, rfl⟩
 cases d with
 | true =>
  obtain ⟨rfl, rfl⟩ : ra = 0 ∧ rb = 2 := by
   have := HR.out;unfold prodR at this;rw [if_pos HD.out] at this;injection this with h1 h2;exact ⟨h1.symm, h2.symm⟩
  go_wp2
  go_ret2
  exact ⟨rfl, rfl⟩
 | false =>
  have HR2 : Hid ((ra, rb) = prodGo l 1) := Hd (by
   have := HR.out;unfold prodR at this;rw [if_neg (by rw [HD.out]; decide)] at this;exact this.symm)
  have HPOS := Hd (any_neg HD.out);clear HI HR HD;go_wp2_with fail
  go_loopw [4, 11] (fun pv iv wr => ∃ (k : Nat) (p : Int), iv = .int .i64 k ∧ pv = .int .i64 p ∧ k ≤ n ∧ 0 ≤ p ∧ p ≤ 4611686018427387904 ∧ Hid ((ra, rb) = prodGo (l.drop k) p) ∧ Hid (w = wr)) (fun _ iv _ => n - (intOf iv).toNat)
  case atStart => exact ⟨0, 1, rfl, rfl, by omega, by omega, by omega, HR2, Hd rfl⟩
  case round =>
   obtain ⟨k, p, rfl, rfl, hk, hp0, hp1, hq, hO⟩ := hrel
   by_cases hlt : k < n
   ·obtain ⟨x, hx⟩ : ∃ x, l[k]? = some x := ⟨_, List.getElem?_eq_getElem (by rw [HN.out]; exact hlt)⟩;obtain ⟨b, off, rfl, hbB, hbw, hc⟩ := (show Row wr B A _ from hO.out ▸ HG.out).open_ (k := k) (by rw [List.length_map, HN.out]; exact hlt);have c0 := hc _ _ (intsC_at hx);have h01 : (k : Int) < (n : Int) := by omega
    have hk0 : (0 : Int) ≤ (k : Int) := Int.natCast_nonneg _;have hwk : IntKind.i64.wrap ((k : Int) + 1) = (k : Int) + 1 := IntWalk.i64_in _ (by omega);have hx0 := HPOS.out x (List.mem_of_getElem? hx);have hx1 := HB.out x (List.mem_of_getElem? hx);have HST := Hd (hq.out.trans (prodGo_step hx p));have HRM := Hd (prod_room (x := x) hp0 hx0 hp1);clear hc hx;obtain ⟨pp, hpp⟩ : ∃ q, p * x = q := ⟨_, rfl⟩;rw [hpp] at HST HRM
    by_cases hxp : 0 < x
    ·obtain ⟨q, hqq⟩ : ∃ q, (4611686018427387904 : Int) / x = q := ⟨_, rfl⟩;have hq0 : 0 ≤ q := by rw [← hqq]; exact Int.ediv_nonneg (by omega) (by omega)
     have hq1 : q ≤ 4611686018427387904 := by rw [← hqq]; exact Int.ediv_le_self _ (by omega)
     have hqt : (4611686018427387904 : Int).tdiv x = q := by rw [Int.tdiv_eq_ediv_of_nonneg (by omega)]; exact hqq
     have hwq : IntKind.i64.wrap q = q := IntWalk.i64_in _ (by omega);have hxz : (x == 0) = false := by simp; omega
     have hxz2 : x ≠ 0 := by omega
     rw [hqq] at HST HRM;clear hqq
     by_cases hqp : q < p
     ·have HFR : Hid ((ra, rb) = (0, 6)) := Hd (by rw [HST.out, if_pos ⟨hxp, hqp⟩]);obtain ⟨rfl, rfl⟩ : ra = 0 ∧ rb = 6 := by have := HFR.out; injection this with h1 h2; exact ⟨h1, h2⟩
      clear HST HRM hq HFR hpp;go_wp2
      go_ret2
      exact ⟨rfl, hO.out⟩
     ·have hd1 : decide (q < p) = false := decide_eq_false hqp;have HFR : Hid ((ra, rb) = prodGo (l.drop (k + 1)) pp) := Hd (by rw [HST.out, if_neg (fun h => hqp h.2)]);obtain ⟨hpp0, hpp1⟩ := HRM.out (fun h => hqp h.2);have hwp : IntKind.i64.wrap pp = pp := IntWalk.i64_in _ (by omega);clear HST HRM hq hqp;go_wp2
      go_roundw
      case rel => exact ⟨k + 1, pp, by go_num, rfl, by omega, hpp0, hpp1, HFR, hO⟩
      case measure => simp [intOf]; omega
    ·have hd0 : decide (0 < x) = false := decide_eq_false hxp;have HFR : Hid ((ra, rb) = prodGo (l.drop (k + 1)) pp) := Hd (by rw [HST.out, if_neg (fun h => hxp h.1)]);obtain ⟨hpp0, hpp1⟩ := HRM.out (fun h => hxp h.1);have hwp : IntKind.i64.wrap pp = pp := IntWalk.i64_in _ (by omega);clear HST HRM hq hxp;go_wp2
     go_roundw
     case rel => exact ⟨k + 1, pp, by go_num, rfl, by omega, hpp0, hpp1, HFR, hO⟩
     case measure => simp [intOf]; omega
   ·obtain rfl : k = n := by omega
    have hd : decide ((k : Int) < (k : Int)) = false := by simp
    have HFR : Hid ((ra, rb) = (p, 0)) := Hd (by rw [hq.out, List.drop_of_length_le (by rw [HN.out]; exact Nat.le_refl _)]; rfl);obtain ⟨rfl, rfl⟩ : ra = p ∧ rb = 0 := by have := HFR.out; injection this with h1 h2; exact ⟨h1, h2⟩
    clear HFR hq;go_wp2
    go_ret2
    exact ⟨rfl, hO.out⟩
theorem rproduct_any (A : Option Addr) (n c B : Nat) (l : List Int) (w : World) (hg : Row w B A (l.map (Value.int .i64))) (hn : l.length = n) (hM : n ≤ 10000000) (hb : ∀ x ∈ l, x ≤ 9223372036854775807) :
  Calls Tryz.prog 11 #[.slice A n c] w fun e w' => e = .returned (.tuple #[.int .i64 (prodR l).1, .int .i64 (prodR l).2]) ∧ w = w' := by
 obtain ⟨⟨ra, rb⟩, hr⟩ : ∃ r, prodR l = r := ⟨_, rfl⟩;rw [hr];have HR := Hd hr;have HG := Hd hg;have HN := Hd hn;have HB := Hd hb;dsimp only;clear hr hg hn hb;go_enter Tryz.func11, Tryz.ntmps11;go_wp2_with fail
 go_loopw [5] (fun iv wr => ∃ k : Nat, iv = .int .i64 k ∧ k ≤ n ∧ Hid ((l.take k).any negB = false) ∧ Hid (w = wr)) (fun iv _ => n - (intOf iv).toNat)
 case atStart => exact ⟨0, rfl, by omega, Hd rfl, Hd rfl⟩
 case round =>
  obtain ⟨k, rfl, hk, hnn, hO⟩ := hrel
  by_cases hlt : k < n
  ·obtain ⟨x, hx⟩ : ∃ x, l[k]? = some x := ⟨_, List.getElem?_eq_getElem (by rw [HN.out]; exact hlt)⟩;obtain ⟨b, off, rfl, hbB, hbw, hc⟩ := (show Row wr B A _ from hO.out ▸ HG.out).open_ (k := k) (by rw [List.length_map, HN.out]; exact hlt);have c0 := hc _ _ (intsC_at hx);have h01 : (k : Int) < (n : Int) := by omega
   have hk0 : (0 : Int) ≤ (k : Int) := Int.natCast_nonneg _;have hwk : IntKind.i64.wrap ((k : Int) + 1) = (k : Int) + 1 := IntWalk.i64_in _ (by omega);have HTK := Hd (anyN_take hx);have HTM := Hd (List.mem_of_getElem? hx);clear hc hx
   by_cases hneg : x < 0
   ·obtain ⟨rfl, rfl⟩ : ra = 0 ∧ rb = 2 := by
     have := HR.out;unfold prodR at this;rw [if_pos (List.any_eq_true.2 ⟨x, HTM.out, decide_eq_true hneg⟩)] at this;injection this with h1 h2;exact ⟨h1.symm, h2.symm⟩
    go_wp2
    go_ret2
    exact ⟨rfl, hO.out⟩
   ·have hd0 : decide (x < 0) = false := decide_eq_false hneg;have HN2 : Hid ((l.take (k + 1)).any negB = false) := Hd (by rw [HTK.out, hnn.out]; exact hd0);clear hneg;go_wp2
    go_roundw
    case rel => exact ⟨k + 1, by go_num, by omega, HN2, hO⟩
    case measure => simp [intOf]; omega
  ·obtain rfl : k = n := by omega
   have hd : decide ((k : Int) < (k : Int)) = false := by simp
   have HD : Hid (l.any negB = false) := Hd (by have := hnn.out; rwa [List.take_of_length_le (by rw [HN.out]; exact Nat.le_refl _)] at this);have HR2 : Hid ((ra, rb) = prodGo l 1) := Hd (by
    have := HR.out;unfold prodR at this;rw [if_neg (by rw [HD.out]; decide)] at this;exact this.symm)
   have HPOS := Hd (any_neg HD.out);have HO1 := hO;clear HR HD hnn hO hlt;obtain ⟨wo, hwo⟩ : ∃ wo : World, wo = wr := ⟨_, rfl⟩;subst hwo;go_wp2_with fail
   go_loopw [4, 6] (fun pv iv wr => ∃ (j : Nat) (p : Int), iv = .int .i64 j ∧ pv = .int .i64 p ∧ j ≤ k ∧ 0 ≤ p ∧ p ≤ 4611686018427387904 ∧ Hid ((ra, rb) = prodGo (l.drop j) p) ∧ Hid (w = wr)) (fun _ iv _ => k - (intOf iv).toNat)
   case atStart => exact ⟨0, 1, rfl, rfl, by omega, by omega, by omega, HR2, HO1⟩
   case round =>
    obtain ⟨j, p, rfl, rfl, hj, hp0, hp1, hq, hO⟩ := hrel
    by_cases hlt : j < k
    ·obtain ⟨x, hx⟩ : ∃ x, l[j]? = some x := ⟨_, List.getElem?_eq_getElem (by rw [HN.out]; exact hlt)⟩;obtain ⟨b, off, rfl, hbB, hbw, hc⟩ := (show Row wr B A _ from hO.out ▸ HG.out).open_ (k := j) (by rw [List.length_map, HN.out]; exact hlt);have c0 := hc _ _ (intsC_at hx);have h01 : (j : Int) < (k : Int) := by omega
     have hk0 : (0 : Int) ≤ (j : Int) := Int.natCast_nonneg _;have hwk : IntKind.i64.wrap ((j : Int) + 1) = (j : Int) + 1 := IntWalk.i64_in _ (by omega);have hx0 := HPOS.out x (List.mem_of_getElem? hx);have hx1 := HB.out x (List.mem_of_getElem? hx);have HST := Hd (hq.out.trans (prodGo_step hx p));have HRM := Hd (prod_room (x := x) hp0 hx0 hp1);clear hc hx;obtain ⟨pp, hpp⟩ : ∃ q, p * x = q := ⟨_, rfl⟩;rw [hpp] at HST HRM
     by_cases hxp : 0 < x
     ·obtain ⟨q, hqq⟩ : ∃ q, (4611686018427387904 : Int) / x = q := ⟨_, rfl⟩;have hq0 : 0 ≤ q := by rw [← hqq]; exact Int.ediv_nonneg (by omega) (by omega)
      have hq1 : q ≤ 4611686018427387904 := by rw [← hqq]; exact Int.ediv_le_self _ (by omega)
      have hqt : (4611686018427387904 : Int).tdiv x = q := by rw [Int.tdiv_eq_ediv_of_nonneg (by omega)]; exact hqq
      have hwq : IntKind.i64.wrap q = q := IntWalk.i64_in _ (by omega);have hxz : (x == 0) = false := by simp; omega
      have hxz2 : x ≠ 0 := by omega
      rw [hqq] at HST HRM;clear hqq
      by_cases hqp : q < p
      ·have HFR : Hid ((ra, rb) = (0, 6)) := Hd (by rw [HST.out, if_pos ⟨hxp, hqp⟩]);obtain ⟨rfl, rfl⟩ : ra = 0 ∧ rb = 6 := by have := HFR.out; injection this with h1 h2; exact ⟨h1, h2⟩
       clear HST HRM hq HFR hpp;go_wp2
       go_ret2
       exact ⟨rfl, hO.out⟩
      ·have hd1 : decide (q < p) = false := decide_eq_false hqp;have HFR : Hid ((ra, rb) = prodGo (l.drop (j + 1)) pp) := Hd (by rw [HST.out, if_neg (fun h => hqp h.2)]);obtain ⟨hpp0, hpp1⟩ := HRM.out (fun h => hqp h.2);have hwp : IntKind.i64.wrap pp = pp := IntWalk.i64_in _ (by omega);clear HST HRM hq hqp;go_wp2
       go_roundw
       case rel => exact ⟨j + 1, pp, by go_num, rfl, by omega, hpp0, hpp1, HFR, hO⟩
       case measure => simp [intOf]; omega
     ·have hd0 : decide (0 < x) = false := decide_eq_false hxp;have HFR : Hid ((ra, rb) = prodGo (l.drop (j + 1)) pp) := Hd (by rw [HST.out, if_neg (fun h => hxp h.1)]);obtain ⟨hpp0, hpp1⟩ := HRM.out (fun h => hxp h.1);have hwp : IntKind.i64.wrap pp = pp := IntWalk.i64_in _ (by omega);clear HST HRM hq hxp;go_wp2
      go_roundw
      case rel => exact ⟨j + 1, pp, by go_num, rfl, by omega, hpp0, hpp1, HFR, hO⟩
      case measure => simp [intOf]; omega
    ·obtain rfl : j = k := by omega
     have hd : decide ((j : Int) < (j : Int)) = false := by simp
     have HFR : Hid ((ra, rb) = (p, 0)) := Hd (by rw [hq.out, List.drop_of_length_le (by rw [HN.out]; exact Nat.le_refl _)]; rfl);obtain ⟨rfl, rfl⟩ : ra = p ∧ rb = 0 := by have := HFR.out; injection this with h1 h2; exact ⟨h1, h2⟩
     clear HFR hq;go_wp2
     go_ret2
     exact ⟨rfl, hO.out⟩
end Go.Proofs.YtbiclliooidkjaaGreatDoor
