/- Parts. -/
import Derived.Lib.SlicesS
import Derived.Test.YthdofaoamljkfaaGreatDoorLaw24AllK6
set_option maxRecDepth 10000
set_option maxHeartbeats 16000000
set_option linter.unusedVariables false
set_option linter.unusedSimpArgs false
namespace Go.Proofs.YthdofaoamljkfaaGreatDoor
open Go.Lib
theorem lessL_trans : ∀ x y z : List Nat, lessL x y = true → lessL y z = true → lessL x z = true
 | [], [], _, h, _ => by cases h
 | [], _ :: _, [], _, h => by cases h
 | [], _ :: _, _ :: _, _, _ => rfl
 | _ :: _, [], _, h, _ => by cases h
 | _ :: _, _ :: _, [], _, h => by cases h
 | r :: x, q :: y, t :: z, h1, h2 => by
  unfold lessL at h1 h2 ⊢
  by_cases e1 : r = q
  ·subst e1;rw [if_pos rfl] at h1
   by_cases e2 : r = t
   ·subst e2;rw [if_pos rfl] at h2 ⊢;exact lessL_trans x y z h1 h2
   ·rw [if_neg e2] at h2 ⊢;exact h2
  ·rw [if_neg e1] at h1;have h1 := of_decide_eq_true h1
   by_cases e2 : q = t
   ·subst e2;rw [if_neg e1];exact decide_eq_true h1
   ·rw [if_neg e2] at h2;have h2 := of_decide_eq_true h2;rw [if_neg (by omega)];exact decide_eq_true (by omega)
def lessB (a b : ByteArray) : Bool := lessL (runesL (by_ a)) (runesL (by_ b))
theorem lessB_irr (a : ByteArray) : lessB a a = false := less_irr _
theorem lessB_trans {a b c : ByteArray} (h1 : lessB a b = true) (h2 : lessB b c = true) : lessB a c = true := lessL_trans _ _ _ h1 h2
theorem lessB_asym {a b : ByteArray} (h : lessB a b = true) : lessB b a = false := by
 cases h2 : lessB b a with
 | false => rfl
 | true =>
  have := lessB_trans h h2;rw [lessB_irr] at this
  cases this
theorem name_valid' {s : ByteArray} (h : isName s = true) : validD (by_ s) = true := by
 unfold isName at h;simp only [Bool.and_eq_true] at h;exact h.1.1
theorem lessB_total {a b : ByteArray} (ha : isName a = true) (hb : isName b = true) (h1 : lessB a b = false) (h2 : lessB b a = false) : a = b := by
 by_cases e : runesL (by_ a) = runesL (by_ b)
 ·exact by_inj (runes_inj (name_valid' ha) (name_valid' hb) e)
 ·have := less_one _ _ e;unfold lessB at h1 h2;rw [h1, h2] at this
  cases this
def Rising (l : List ByteArray) : Prop := l.Pairwise fun a b => lessB a b = true
theorem rising_unique : ∀ l m : List ByteArray, Rising l → Rising m → (∀ x, x ∈ l ↔ x ∈ m) → l = m
 | [], [], _, _, _ => rfl
 | [], y :: m, _, _, h => by have := (h y).2 (List.mem_cons_self ..); cases this
 | x :: l, [], _, _, h => by have := (h x).1 (List.mem_cons_self ..); cases this
 | x :: l, y :: m, hl, hm, h => by
  obtain ⟨hx, hl2⟩ := List.pairwise_cons.1 hl;obtain ⟨hy, hm2⟩ := List.pairwise_cons.1 hm;have exy : x = y := by
   rcases List.mem_cons.1 ((h x).1 (List.mem_cons_self ..)) with e | e
   ·exact e
   ·rcases List.mem_cons.1 ((h y).2 (List.mem_cons_self ..)) with e2 | e2
    ·exact e2.symm
    ·have h1 := hy x e;have h2 := hx y e2;rw [lessB_asym h1] at h2
     cases h2
  subst exy;have : l = m := by
   refine rising_unique l m hl2 hm2 fun z => ⟨fun hz => ?_, fun hz => ?_⟩
   ·rcases List.mem_cons.1 ((h z).1 (List.mem_cons_of_mem _ hz)) with e | e
    ·subst e;have := hx z hz;rw [lessB_irr] at this
     cases this
    ·exact e
   ·rcases List.mem_cons.1 ((h z).2 (List.mem_cons_of_mem _ hz)) with e | e
    ·subst e;have := hy z hz;rw [lessB_irr] at this
     cases this
    ·exact e
  rw [this]
def aheadOf (out : List ByteArray) (x : ByteArray) : Nat := (out.takeWhile fun y => lessB y x).length
def insB (out : List ByteArray) (x : ByteArray) : List ByteArray :=
 if isName x = true then (if out[aheadOf out x]? = some x then out else out.take (aheadOf out x) ++ x :: out.drop (aheadOf out x)) else out
def sortB (l : List ByteArray) : List ByteArray := l.foldl insB []
theorem ahead_split (out : List ByteArray) (x : ByteArray) : out.take (aheadOf out x) = out.takeWhile (fun y => lessB y x) ∧ out.drop (aheadOf out x) = out.dropWhile (fun y => lessB y x) := by
 have h := List.takeWhile_append_dropWhile (p := fun y => lessB y x) (l := out);have h1 := congrArg (List.take (out.takeWhile fun y => lessB y x).length) h;have h2 := congrArg (List.drop (out.takeWhile fun y => lessB y x).length) h;rw [List.take_left] at h1;rw [List.drop_left] at h2;exact ⟨h1.symm, h2.symm⟩
structure Names (out : List ByteArray) : Prop where
 rise : Rising out
 name : ∀ x ∈ out, isName x = true
theorem names_nil : Names [] := ⟨List.Pairwise.nil, fun x h => (by cases h)⟩
theorem drop_head {p : ByteArray → Bool} : ∀ {l : List ByteArray} {y : ByteArray} {t : List ByteArray}, l.dropWhile p = y :: t → p y = false
 | x :: l, y, t, h => by
  by_cases hx : p x = true
  ·rw [List.dropWhile_cons_of_pos hx] at h;exact drop_head h
  ·rw [List.dropWhile_cons_of_neg hx] at h;obtain ⟨rfl, -⟩ := List.cons.inj h
   simpa using hx
theorem take_all {p : ByteArray → Bool} : ∀ (l : List ByteArray), ∀ y ∈ l.takeWhile p, p y = true
 | x :: l, y, h => by
  by_cases hx : p x = true
  ·rw [List.takeWhile_cons_of_pos hx] at h;rcases List.mem_cons.1 h with rfl | h
   ·exact hx
   ·exact take_all l y h
  ·rw [List.takeWhile_cons_of_neg hx] at h
   cases h
theorem ins_names {out : List ByteArray} (h : Names out) (x : ByteArray) : Names (insB out x) ∧ ∀ y, y ∈ insB out x ↔ y ∈ out ∨ (y = x ∧ isName x = true) := by
 unfold insB
 by_cases hx : isName x = true
 ·rw [if_pos hx]
  by_cases he : out[aheadOf out x]? = some x
  ·rw [if_pos he];refine ⟨h, fun y => ⟨.inl, ?_⟩⟩;rintro (hy | ⟨rfl, -⟩)
   ·exact hy
   ·exact List.mem_of_getElem? he
  ·rw [if_neg he];obtain ⟨h1, h2⟩ := ahead_split out x;have happ : out.take (aheadOf out x) ++ out.drop (aheadOf out x) = out := List.take_append_drop _ _;have hall := take_all (p := fun y => lessB y x) out;rw [← h1] at hall;have hrest : ∀ y ∈ out.drop (aheadOf out x), lessB x y = true := by
    cases hd : out.drop (aheadOf out x) with
    | nil => intro y hy; cases hy
    | cons z t =>
     have hz : lessB z x = false := drop_head (p := fun y => lessB y x) (by rw [← h2]; exact hd);have hzm : z ∈ out := by rw [← happ, hd]; simp
     have hzx : z ≠ x := fun e => he (by
      have : (out.drop (aheadOf out x))[0]? = some z := by rw [hd]; rfl
      rw [List.getElem?_drop, Nat.add_zero] at this;rw [this, e])
     have hxz : lessB x z = true := by
      cases hc : lessB x z with
      | true => rfl
      | false => exact absurd (lessB_total (h.name z hzm) hx hz hc) hzx
     have hr := h.rise;rw [← happ, hd] at hr;have hr2 := (List.pairwise_append.1 hr).2.1;intro y hy;rcases List.mem_cons.1 hy with rfl | hy
     ·exact hxz
     ·exact lessB_trans hxz ((List.pairwise_cons.1 hr2).1 y hy)
   have hr := h.rise;unfold Rising at hr;rw [← happ] at hr;obtain ⟨ra, rb, rab⟩ := List.pairwise_append.1 hr;refine ⟨⟨?_, ?_⟩, fun y => ?_⟩
   ·refine List.pairwise_append.2 ⟨ra, List.pairwise_cons.2 ⟨hrest, rb⟩, fun a ha b hb => ?_⟩;rcases List.mem_cons.1 hb with rfl | hb
    ·exact hall a ha
    ·exact rab a ha b hb
   ·intro y hy;rcases List.mem_append.1 hy with hy | hy
    ·exact h.name y (List.mem_of_mem_take hy)
    ·rcases List.mem_cons.1 hy with rfl | hy
     ·exact hx
     ·exact h.name y (List.mem_of_mem_drop hy)
   ·constructor
    ·intro hy;rcases List.mem_append.1 hy with hy | hy
     ·exact .inl (List.mem_of_mem_take hy)
     ·rcases List.mem_cons.1 hy with rfl | hy
      ·exact .inr ⟨rfl, hx⟩
      ·exact .inl (List.mem_of_mem_drop hy)
    ·rintro (hy | ⟨rfl, -⟩)
     ·rw [← happ] at hy;rcases List.mem_append.1 hy with hy | hy
      ·exact List.mem_append.2 (.inl hy)
      ·exact List.mem_append.2 (.inr (List.mem_cons_of_mem _ hy))
     ·exact List.mem_append.2 (.inr (List.mem_cons_self ..))
 ·rw [if_neg hx];refine ⟨h, fun y => ⟨.inl, ?_⟩⟩;rintro (hy | ⟨-, hc⟩)
  ·exact hy
  ·exact absurd hc hx
theorem fold_names : ∀ (l out : List ByteArray), Names out → Names (l.foldl insB out) ∧ ∀ y, y ∈ l.foldl insB out ↔ y ∈ out ∨ (y ∈ l ∧ isName y = true)
 | [], out, h => ⟨h, fun y => by simp⟩
 | x :: l, out, h => by
  obtain ⟨h1, h2⟩ := ins_names h x;obtain ⟨h3, h4⟩ := fold_names l (insB out x) h1;refine ⟨h3, fun y => ?_⟩;rw [List.foldl_cons, h4, h2]
  constructor
  ·rintro ((h | ⟨rfl, h⟩) | ⟨h, h'⟩)
   ·exact .inl h
   ·exact .inr ⟨List.mem_cons_self .., h⟩
   ·exact .inr ⟨List.mem_cons_of_mem _ h, h'⟩
  ·rintro (h | ⟨h, h'⟩)
   ·exact .inl (.inl h)
   ·rcases List.mem_cons.1 h with rfl | h
    ·exact .inl (.inr ⟨rfl, h'⟩)
    ·exact .inr ⟨h, h'⟩
theorem sortB_names (l : List ByteArray) : Names (sortB l) ∧ ∀ y, y ∈ sortB l ↔ y ∈ l ∧ isName y = true := by
 obtain ⟨h1, h2⟩ := fold_names l [] names_nil;exact ⟨h1, fun y => by rw [show sortB l = l.foldl insB [] from rfl, h2]; simp⟩
theorem sortB_unique {l m : List ByteArray} (hr : Rising m) (hm : ∀ y, y ∈ m ↔ y ∈ l ∧ isName y = true) : m = sortB l :=
 rising_unique m (sortB l) hr (sortB_names l).1.rise fun y => by rw [hm, (sortB_names l).2]
def riseB : List ByteArray → Bool
 | [] => true
 | [_] => true
 | a :: b :: l => lessB a b && riseB (b :: l)
def tabB (t : List ByteArray) : Bool := t.all isName && riseB t
theorem riseB_iff : ∀ t : List ByteArray, riseB t = true ↔ ∀ (j : Nat) x y, t[j]? = some x → t[j + 1]? = some y → lessB x y = true
 | [] => ⟨fun _ j x y h => (by cases h), fun _ => rfl⟩
 | [a] => ⟨fun _ j x y _ h => (by simp at h), fun _ => rfl⟩
 | a :: b :: l => by
  rw [riseB, Bool.and_eq_true, riseB_iff (b :: l)]
  constructor
  ·rintro ⟨h1, h2⟩ j x y hx hy
   cases j with
   | zero =>
    obtain rfl := Option.some.inj hx;obtain rfl := Option.some.inj hy;exact h1
   | succ j => exact h2 j x y hx hy
  ·intro h;exact ⟨h 0 a b rfl rfl, fun j x y hx hy => h (j + 1) x y hx hy⟩
theorem tab_iff (t : List ByteArray) : tabB t = true ↔ (∀ (j : Nat) x, t[j]? = some x → isName x = true) ∧ ∀ (j : Nat) x y, t[j]? = some x → t[j + 1]? = some y → lessB x y = true := by
 unfold tabB;rw [Bool.and_eq_true, riseB_iff, List.all_eq_true];refine ⟨fun ⟨h1, h2⟩ => ⟨fun j x hx => h1 x (List.mem_of_getElem? hx), h2⟩, fun ⟨h1, h2⟩ => ⟨fun x hx => ?_, h2⟩⟩;obtain ⟨j, hj⟩ := List.mem_iff_getElem?.1 hx;exact h1 j x hj
theorem tab_bad1 {t : List ByteArray} {j : Nat} {x : ByteArray} (h : t[j]? = some x) (hn : isName x = false) : tabB t = false := by
 cases ht : tabB t with
 | false => rfl
 | true =>
  have := ((tab_iff t).1 ht).1 j x h;rw [hn] at this
  cases this
theorem tab_bad2 {t : List ByteArray} {j : Nat} {x y : ByteArray} (h : t[j]? = some x) (h' : t[j + 1]? = some y) (hn : lessB x y = false) : tabB t = false := by
 cases ht : tabB t with
 | false => rfl
 | true =>
  have := ((tab_iff t).1 ht).2 j x y h h';rw [hn] at this
  cases this
def posB (t : List ByteArray) (s : ByteArray) : Int := if tabB t = true then idxOfS t s else -1
theorem idx_ge (t : List ByteArray) (s : ByteArray) : -1 ≤ idxOfS t s ∧ idxOfS t s < t.length := by
 by_cases h : s ∈ t
 ·obtain ⟨k, hk, hmin⟩ : ∃ k : Nat, t[k]? = some s ∧ ∀ j, j < k → t[j]? ≠ some s := by
   obtain ⟨k, hk⟩ := List.mem_iff_getElem?.1 h;refine Nat.strongRecOn (motive := fun k : Nat => t[k]? = some s → ∃ k : Nat, t[k]? = some s ∧ ∀ j, j < k → t[j]? ≠ some s) k (fun k ih hk => ?_) hk
   by_cases hj : ∃ j, j < k ∧ t[j]? = some s
   ·obtain ⟨j, hj1, hj2⟩ := hj;exact ih j hj1 hj2
   ·exact ⟨k, hk, fun j hj1 hj2 => hj ⟨j, hj1, hj2⟩⟩
  have hl := (List.getElem?_eq_some_iff.1 hk).1;have := idxOfS_hit t t.length k s hl (Nat.le_refl _) (by rw [List.getD_eq_getElem?_getD, hk]; rfl) (fun j hj e => hmin j hj (by
   rw [List.getD_eq_getElem?_getD, List.getElem?_eq_getElem (by omega)] at e;rw [List.getElem?_eq_getElem (by omega)];exact congrArg some e))
  rw [List.take_length] at this;rw [this];omega
 ·have := idxOfS_miss t t.length s (fun j hj e => h (by
   rw [List.getD_eq_getElem?_getD, List.getElem?_eq_getElem hj] at e;have e2 : t[j] = s := e;rw [← e2];exact List.getElem_mem hj))
  rw [List.take_length] at this;rw [this];omega
end Go.Proofs.YthdofaoamljkfaaGreatDoor
namespace Go.Proofs.YthdofaoamljkfaaGreatDoor
open Go.RowKit
open Go.Lib hiding intOf
attribute [local go_sem ↓] Go.wp_at_zero Go.wp_at_succ
theorem istab_any (A : Option Addr) (n c B : Nat) (t : List ByteArray) (w : World) (hn : t.length = n) (hnm : n ≤ 9223372036854775806) (hz : ∀ z ∈ t, z.size ≤ 9223372036854775807) (hA : Row w B A (strs t)) (hT : UTabs w) :
  Calls Tryz.prog 78 #[.slice A n c] w fun e w' => e = .returned (.bool (tabB t)) ∧ Only [] w w' := by
 have HIS := Hd (fun (k : Nat) z w' (h : Only [] w w') (hz' : t[k]? = some z) => is_any z w' (hz z (List.mem_of_getElem? hz')) (hT.only h));have HLS := Hd (fun (k j : Nat) y z w' (h : Only [] w w') (hy : t[j]? = some y) (hz' : t[k]? = some z) => less_any y z w' (hz y (List.mem_of_getElem? hy)) (hz z (List.mem_of_getElem? hz')) (hT.only h));have HN := Hd hn;have HROW := Hd hA;clear hn hz hA hT;go_enter Tryz.func78, Tryz.ntmps78;go_wp2_with fail
 go_loopw [7] (fun iv wr => ∃ (k : Nat), iv = .int .i64 k ∧ k ≤ n ∧ Hid (∀ (j : Nat) x, j < k → t[j]? = some x → isName x = true) ∧ Hid (∀ (j : Nat) x y, j + 1 < k → t[j]? = some x → t[j + 1]? = some y → lessB x y = true) ∧ Hid (Only [] w wr)) (fun iv _ => n - (intOf iv).toNat)
 case atStart => exact ⟨0, rfl, by omega, Hd (fun j x h => by omega), Hd (fun j x y h => by omega), Hd (Only.refl [] w)⟩
 case round =>
  obtain ⟨k, rfl, hk, HNM, HLE, HO⟩ := hrel
  by_cases hlt : k < n
  ·have h01 : (k : Int) < (n : Int) := by omega
   have hk0 : (0 : Int) ≤ (k : Int) := Int.natCast_nonneg _;have hwk : IntKind.i64.wrap ((k : Int) + 1) = (k : Int) + 1 := IntWalk.i64_in _ (by omega);obtain ⟨b, off, rfl, hbB, hbw, hcell⟩ := HROW.out.open_ (k := k) (by rw [strs, List.length_map, HN.out]; exact hlt);obtain ⟨l, hl⟩ : ∃ l, t[k]? = some l := ⟨_, List.getElem?_eq_getElem (by rw [HN.out]; exact hlt)⟩;have HUP := Hd (fun (w' : World) (h : Only [] w w') (j : Nat) (x : ByteArray) (hx : t[j]? = some x) => ((h.cell (p := ⟨b, off + j, none⟩) hbw (by simp)).trans (hcell j _ (by rw [strs, List.getElem?_map, hx]; rfl)) : w'.cell? ⟨b, off + j, none⟩ = some (.string x)));have hck := HUP.out wr HO.out k l hl;have hck' : k = 0 → wr.cell? ⟨b, off, none⟩ = some (.string l) := fun h => by subst h; exact hck
   have HI := Hd (HIS.out k l wr HO.out hl);have HLK := Hd hl;obtain ⟨v, hv⟩ : ∃ v, v = isName l := ⟨_, rfl⟩;rw [← hv] at HI;have HV := Hd hv;have HCK := Hd hck';clear hcell hl hv hck'
   cases v with
   | false =>
    have HF : Hid (tabB t = false) := Hd (tab_bad1 HLK.out HV.out.symm);go_wp2_with fail
    refine (HI.out).mono ?_;rintro e w2 ⟨rfl, hO2⟩;have HO2 := Hd (HO.out.trans hO2);clear hO2;go_wp2
    go_ret
    exact ⟨by rw [HF.out]; rfl, HO2.out⟩
   | true =>
    have HNM2 : Hid (∀ (j : Nat) x, j < k + 1 → t[j]? = some x → isName x = true) := Hd (fun j x hj hx => by
     by_cases h : j < k
     ·exact HNM.out j x h hx
     ·obtain rfl : j = k := by omega
      rw [HLK.out] at hx;obtain rfl := Option.some.inj hx;exact HV.out.symm)
    by_cases hk00 : k = 0
    ·have hck0 := HCK.out hk00;subst hk00;have HLE2 : Hid (∀ (j : Nat) x y, j + 1 < 0 + 1 → t[j]? = some x → t[j + 1]? = some y → lessB x y = true) := Hd (fun j x y h => by omega);go_wp2_with fail
     refine (HI.out).mono ?_;rintro e w2 ⟨rfl, hO2⟩;have HO2 := Hd (HO.out.trans hO2);clear hO2;go_wp2
     go_roundw
     case rel => exact ⟨0 + 1, by first | rfl | go_num, by omega, HNM2, HLE2, HO2⟩
     case measure => simp [intOf]; omega
    ·obtain ⟨j, hj⟩ : ∃ j, k = j + 1 := ⟨k - 1, by omega⟩;have hkp : (0 : Int) < (k : Int) := by omega
     have hwj : IntKind.i64.wrap ((k : Int) - 1) = (j : Int) := by rw [IntWalk.i64_in _ (by omega)]; omega
     have hj0 : (0 : Int) ≤ (j : Int) := Int.natCast_nonneg _;have hj1 : (j : Int) < (n : Int) := by omega
     obtain ⟨y, hy⟩ : ∃ y, t[j]? = some y := ⟨_, List.getElem?_eq_getElem (by rw [HN.out]; omega)⟩;have HJ := Hd hj;have HY := Hd hy;have HLS1 := Hd (fun w' h => HLS.out k j y l w' h hy HLK.out);obtain ⟨u, hu⟩ : ∃ u, u = lessB y l := ⟨_, rfl⟩;have hu2 : u = lessL (runesL (by_ y)) (runesL (by_ l)) := hu;rw [← hu2] at HLS1;have HU := Hd hu;clear hj hy hu hu2;go_wp2_with fail
     refine (HI.out).mono ?_;rintro e w2 ⟨rfl, hO2⟩;have HO2 := Hd (HO.out.trans hO2);have hcj := HUP.out w2 HO2.out j y HY.out;clear hO2;go_wp2_with fail
     refine (HLS1.out _ HO2.out).mono ?_;rintro e w3 ⟨rfl, hO3⟩;have HO3 := Hd (HO2.out.trans hO3);clear hO3 hcj
     cases u with
     | false =>
      have HF : Hid (tabB t = false) := Hd (tab_bad2 HY.out (by rw [← HJ.out]; exact HLK.out) HU.out.symm);go_wp2
      go_ret
      exact ⟨by rw [HF.out]; rfl, HO3.out⟩
     | true =>
      have HLE2 : Hid (∀ (i : Nat) x z, i + 1 < k + 1 → t[i]? = some x → t[i + 1]? = some z → lessB x z = true) := Hd (fun i x z hi hx hz => by
       by_cases h : i + 1 < k
       ·exact HLE.out i x z h hx hz
       ·obtain rfl : i = j := by have := HJ.out; omega
        rw [HY.out] at hx;obtain rfl := Option.some.inj hx;rw [← HJ.out, HLK.out] at hz;obtain rfl := Option.some.inj hz;exact HU.out.symm)
      go_wp2
      go_roundw
      case rel => exact ⟨k + 1, by go_num, by omega, HNM2, HLE2, HO3⟩
      case measure => simp [intOf]; omega
  ·have hkn : k = n := by omega
   subst hkn;have hd : decide ((k : Int) < (k : Int)) = false := by simp
   have HF : Hid (tabB t = true) := Hd ((tab_iff t).2 ⟨fun j x hx => HNM.out j x (by rw [← HN.out]; exact (List.getElem?_eq_some_iff.1 hx).1) hx, fun j x y hx hy => HLE.out j x y (by rw [← HN.out]; exact (List.getElem?_eq_some_iff.1 hy).1) hx hy⟩);go_wp2
   go_ret
   exact ⟨by rw [HF.out]; rfl, HO.out⟩
end Go.Proofs.YthdofaoamljkfaaGreatDoor
