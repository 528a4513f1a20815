/- Parts. -/
import Derived.Test.YtojpohmijlkagaaDoorLaw43AllK16
set_option maxRecDepth 10000
set_option maxHeartbeats 16000000
set_option linter.unusedVariables false
set_option linter.unusedSimpArgs false
namespace Go.Proofs.YtojpohmijlkagaaDoor
open Go.Lib hiding intOf
structure Cmd where
 row : Int
 kind : Int
 n : Int
deriving DecidableEq
def Cmd.c (x : Cmd) : List Value := [.int .i64 x.row, .int .i64 x.kind, .int .i64 x.n]
def cmdC (l : List Cmd) : List Value := l.flatMap Cmd.c
theorem cmdC_len (l : List Cmd) : (cmdC l).length = l.length * 3 := by
 induction l with
 | nil => rfl
 | cons x l ih => unfold cmdC at ih ⊢; rw [List.flatMap_cons, List.length_append, ih, List.length_cons]; simp [Cmd.c]; omega
theorem cmdC_snoc (l : List Cmd) (x : Cmd) : cmdC (l ++ [x]) = cmdC l ++ x.c := by simp [cmdC]
def kwL : List ByteArray := [⟨#[108, 101, 118, 101, 108]⟩, ⟨#[112, 111, 108, 105, 99, 121]⟩, ⟨#[98, 117, 100, 103, 101, 116]⟩, ⟨#[99, 104, 101, 99, 107]⟩, ⟨#[114, 101, 112, 111, 114, 116]⟩, ⟨#[102, 111, 114, 99, 101, 100]⟩, ⟨#[119, 111, 114, 108, 100, 115]⟩, ⟨#[101, 110, 111, 117, 103, 104]⟩, ⟨#[115, 104, 111, 119]⟩, ⟨#[119, 114, 111, 110, 103]⟩]
def lvlL : List ByteArray := [⟨#[82, 67]⟩, ⟨#[67, 67]⟩, ⟨#[83, 69, 82]⟩]
def polL : List ByteArray := [⟨#[107, 101, 101, 112]⟩, ⟨#[101, 114, 97, 115, 101]⟩]
def findB (s : ByteArray) : List ByteArray → Nat → Option Nat
 | [], _ => none
 | x :: r, k => if x = s then some k else findB s r (k + 1)
theorem findB_some {s : ByteArray} : ∀ {l : List ByteArray} {k i : Nat}, findB s l k = some i → k ≤ i ∧ l[i - k]? = some s ∧ i < k + l.length
 | [], _, _, h => by cases h
 | x :: r, k, i, h => by
  unfold findB at h
  by_cases e : x = s
  ·rw [if_pos e] at h;obtain rfl := Option.some.inj h;exact ⟨Nat.le_refl _, by rw [Nat.sub_self]; simp [e], by simp⟩
  ·rw [if_neg e] at h;obtain ⟨h1, h2, h3⟩ := findB_some h;refine ⟨by omega, ?_, by rw [List.length_cons]; omega⟩;rw [show i - k = (i - (k + 1)) + 1 by omega, List.getElem?_cons_succ];exact h2
def namedR (l : List ByteArray) (s : ByteArray) : Int × Int :=
 match findB s l 0 with
 | some i => ((i : Int) + 1, 0)
 | none => (0, 5)
def operR (kind : Int) (ws : List ByteArray) : Int × Int :=
 if 3 < kind then (0, if ws.length = 0 then 0 else 5)
 else match ws with
  | [x] => if kind = 1 then namedR lvlL x else if kind = 2 then namedR polL x else if prE (by_ x) ≠ 0 then (0, prE (by_ x)) else if prN (by_ x) < 0 then (0, 2) else (prN (by_ x), 0)
  | _ => (0, 5)
def cmdR (w : ByteArray) (t : List ByteArray) : Int × Int × Int :=
 match findB w kwL 0 with
 | some k => ((k : Int) + 1, (operR ((k : Int) + 1) t).1, (operR ((k : Int) + 1) t).2)
 | none => (0, 0, 5)
def scrGo : List ByteArray → Nat → List Cmd → List Cmd × Int × Int
 | [], _, acc => (acc, 0, 0)
 | s :: r, i, acc =>
  match textsOf s with
  | [] => scrGo r (i + 1) acc
  | w :: t => if (cmdR w t).2.2 ≠ 0 then ([], (i : Int) + 1, (cmdR w t).2.2) else if acc.length = 200 then ([], (i : Int) + 1, 7) else scrGo r (i + 1) (acc ++ [⟨(i : Int) + 1, (cmdR w t).1, (cmdR w t).2.1⟩])
def mayN (kd n : Int) : Bool := if kd = 1 then decide (1 ≤ n ∧ n ≤ 3) else if kd = 2 then decide (1 ≤ n ∧ n ≤ 2) else if kd = 3 then decide (0 ≤ n) else decide (4 ≤ kd ∧ kd ≤ 10 ∧ n = 0)
def mayC (x : Cmd) : Bool := mayN x.kind x.n
def wordsC (x : Cmd) : List ByteArray := kwL.getD (x.kind - 1).toNat ⟨#[]⟩ :: (if x.kind = 1 then [lvlL.getD (x.n - 1).toNat ⟨#[]⟩] else if x.kind = 2 then [polL.getD (x.n - 1).toNat ⟨#[]⟩] else if x.kind = 3 then [⟨(Lib.itoa x.n).toArray⟩] else [])
def lineC (x : Cmd) : List UInt8 := joinW (wordsC x)
def textC (l : List Cmd) : List UInt8 := (l.map fun x => lineC x ++ [10]).flatten
def printC (l : List Cmd) : ByteArray × Int := if 200 < l.length then (⟨#[]⟩, 7) else if l.all mayC = true then (⟨(textC l).toArray⟩, 0) else (⟨#[]⟩, 4)
def setC (x : Cmd) : Bool := decide (1 ≤ x.kind ∧ x.kind ≤ 3)
theorem kwL_good : ∀ x ∈ kwL, GoodW (by_ x) := by
 intro x hx;simp only [kwL, List.mem_cons, List.not_mem_nil, or_false] at hx;rcases hx with rfl | rfl | rfl | rfl | rfl | rfl | rfl | rfl | rfl | rfl <;> exact good_small (by decide) (by decide)
theorem lvlL_good : ∀ x ∈ lvlL, GoodW (by_ x) := by
 intro x hx;simp only [lvlL, List.mem_cons, List.not_mem_nil, or_false] at hx;rcases hx with rfl | rfl | rfl <;> exact good_small (by decide) (by decide)
theorem polL_good : ∀ x ∈ polL, GoodW (by_ x) := by
 intro x hx;simp only [polL, List.mem_cons, List.not_mem_nil, or_false] at hx;rcases hx with rfl | rfl <;> exact good_small (by decide) (by decide)
theorem itoa_goodW (n : Int) : GoodW (Lib.itoa n) := by
 refine good_small ?_ fun b hb => ?_
 ·intro e;have := digB_itoa n;rw [e] at this;exact absurd this (by decide)
 ·rcases itoa_bytes n b hb with rfl | h
  ·decide
  ·unfold isDig at h;simp at h;omega
theorem kw_find {k : Nat} (h : k < 10) : findB (kwL.getD k ⟨#[]⟩) kwL 0 = some k := by
 have : ∀ k : Fin 10, findB (kwL.getD k.val ⟨#[]⟩) kwL 0 = some k.val := by decide +kernel
 exact this ⟨k, h⟩
theorem lvl_find {k : Nat} (h : k < 3) : findB (lvlL.getD k ⟨#[]⟩) lvlL 0 = some k := by
 have : ∀ k : Fin 3, findB (lvlL.getD k.val ⟨#[]⟩) lvlL 0 = some k.val := by decide +kernel
 exact this ⟨k, h⟩
theorem pol_find {k : Nat} (h : k < 2) : findB (polL.getD k ⟨#[]⟩) polL 0 = some k := by
 have : ∀ k : Fin 2, findB (polL.getD k.val ⟨#[]⟩) polL 0 = some k.val := by decide +kernel
 exact this ⟨k, h⟩
theorem mayC_kind {x : Cmd} (h : mayC x = true) : 1 ≤ x.kind ∧ x.kind ≤ 10 := by
 unfold mayC mayN at h
 split at h
 ·omega
 ·split at h
  ·omega
  ·split at h
   ·omega
   ·have := of_decide_eq_true h; omega
theorem getD_mem {α : Type} {l : List α} {k : Nat} {d : α} (h : k < l.length) : l.getD k d ∈ l := by
 rw [List.getD_eq_getElem?_getD, List.getElem?_eq_getElem h];exact List.getElem_mem h
theorem wordsC_good {x : Cmd} (h : mayC x = true) : ∀ w ∈ wordsC x, GoodW (by_ w) := by
 obtain ⟨h1, h2⟩ := mayC_kind h;intro w hw;unfold wordsC at hw;rcases List.mem_cons.1 hw with rfl | hw
 ·exact kwL_good _ (getD_mem (by show _ < 10; omega))
 ·unfold mayC mayN at h
  by_cases e1 : x.kind = 1
  ·rw [if_pos e1] at h hw;have := of_decide_eq_true h;rw [List.mem_singleton] at hw;subst hw;exact lvlL_good _ (getD_mem (by show _ < 3; omega))
  ·rw [if_neg e1] at h hw
   by_cases e2 : x.kind = 2
   ·rw [if_pos e2] at h hw;have := of_decide_eq_true h;rw [List.mem_singleton] at hw;subst hw;exact polL_good _ (getD_mem (by show _ < 2; omega))
   ·rw [if_neg e2] at h hw
    by_cases e3 : x.kind = 3
    ·rw [if_pos e3] at hw;rw [List.mem_singleton] at hw;subst hw;exact itoa_goodW x.n
    ·rw [if_neg e3] at hw
     cases hw
theorem cmd_back {x : Cmd} (h : mayC x = true) (hn : x.n ≤ 9223372036854775807) {T : ByteArray} (hT : by_ T = lineC x) :
  badL (by_ T) = false ∧ ∃ w t, textsOf T = w :: t ∧ cmdR w t = (x.kind, x.n, 0) := by
 obtain ⟨h1, h2⟩ := texts_of_join (wordsC_good h) hT;obtain ⟨k1, k2⟩ := mayC_kind h;refine ⟨h1, _, _, h2, ?_⟩;unfold cmdR;rw [kw_find (by omega)];dsimp only;have hk : (((x.kind - 1).toNat : Nat) : Int) + 1 = x.kind := by omega
 rw [hk];unfold mayC mayN at h;unfold operR
 by_cases e1 : x.kind = 1
 ·rw [if_pos e1] at h;have := of_decide_eq_true h;rw [if_neg (by omega), if_pos e1];dsimp only;rw [if_pos e1];unfold namedR;rw [lvl_find (by omega)];dsimp only;rw [show (((x.n - 1).toNat : Nat) : Int) + 1 = x.n by omega]
 ·rw [if_neg e1] at h
  by_cases e2 : x.kind = 2
  ·rw [if_pos e2] at h;have := of_decide_eq_true h;rw [if_neg (by omega), if_neg e1, if_pos e2];dsimp only;rw [if_neg e1, if_pos e2];unfold namedR;rw [pol_find (by omega)];dsimp only;rw [show (((x.n - 1).toNat : Nat) : Int) + 1 = x.n by omega]
  ·rw [if_neg e2] at h
   by_cases e3 : x.kind = 3
   ·rw [if_pos e3] at h;have := of_decide_eq_true h;rw [if_neg (by omega), if_neg e1, if_neg e2, if_pos e3];dsimp only;rw [if_neg e1, if_neg e2];have hb : by_ (⟨(Lib.itoa x.n).toArray⟩ : ByteArray) = Lib.itoa x.n := rfl;rw [hb, prE_itoa x.n (by omega) hn, prN_itoa x.n (by omega) hn, if_neg (by decide), if_neg (by omega)]
   ·rw [if_neg e3] at h;have := of_decide_eq_true h;rw [if_pos (by omega), if_neg e1, if_neg e2, if_neg e3];dsimp only;rw [this.2.2]
    rfl
def rowsC : List Cmd → Nat → List Cmd
 | [], _ => []
 | x :: r, i => ⟨(i : Int) + 1, x.kind, x.n⟩ :: rowsC r (i + 1)
theorem rowsC_len : ∀ (l : List Cmd) (i : Nat), (rowsC l i).length = l.length
 | [], _ => rfl
 | x :: r, i => by rw [rowsC, List.length_cons, List.length_cons, rowsC_len r]
theorem scr_back : ∀ (l : List Cmd) (xs : List ByteArray) (i : Nat) (acc : List Cmd), l.all mayC = true → (∀ x ∈ l, x.n ≤ 9223372036854775807) → xs.map by_ = l.map lineC → acc.length + l.length ≤ 200 → scrGo xs i acc = (acc ++ rowsC l i, 0, 0)
 | [], [], i, acc, _, _, _, _ => by simp [scrGo, rowsC]
 | x :: r, s :: xs, i, acc, h, hn, hx, hl => by
  rw [List.all_cons, Bool.and_eq_true] at h;rw [List.map_cons, List.map_cons] at hx;injection hx with hx1 hx2;obtain ⟨-, w, t, h1, h2⟩ := cmd_back h.1 (hn x List.mem_cons_self) hx1;rw [List.length_cons] at hl;rw [scrGo, h1];dsimp only;rw [h2];dsimp only;rw [if_neg (by decide), if_neg (by omega), scr_back r xs (i + 1) _ h.2 (fun y hy => hn y (List.mem_cons_of_mem _ hy)) hx2 (by rw [List.length_append]; simp; omega), rowsC, List.append_assoc]
  rfl
theorem joinW_no10 {ws : List ByteArray} (h : ∀ x ∈ ws, GoodW (by_ x)) : (10 : UInt8) ∉ joinW ws := by
 intro hm;have h1 := (texts_of_join h (T := ⟨(joinW ws).toArray⟩) rfl).1;unfold badL at h1;rw [Bool.or_eq_false_iff] at h1;have h2 : (joinW ws).contains (10 : UInt8) = false := h1.2;rw [List.contains_eq_mem, decide_eq_false_iff_not] at h2;exact h2 hm
theorem lines_text {l : List Cmd} (h : l.all mayC = true) : linesOf (textC l) = l.map lineC := by
 unfold textC;rw [show (l.map fun x => lineC x ++ [10]) = (l.map lineC).map fun a => a ++ [10] by rw [List.map_map]; rfl];refine lines_all _ (fun a ha => ?_);obtain ⟨x, hx, rfl⟩ := List.mem_map.1 ha;exact joinW_no10 (wordsC_good (List.all_eq_true.1 h x hx))
theorem lines_valid {l : List Cmd} (h : l.all mayC = true) : ∀ a ∈ l.map lineC, validD a = true := by
 intro a ha;obtain ⟨x, hx, rfl⟩ := List.mem_map.1 ha;have h1 := (texts_of_join (wordsC_good (List.all_eq_true.1 h x hx)) (T := ⟨(lineC x).toArray⟩) rfl).1;unfold badL at h1;rw [Bool.or_eq_false_iff] at h1;have h2 : (!validD (lineC x)) = false := h1.1
 simpa using h2
theorem namedR_le {l : List ByteArray} {s : ByteArray} (h : (namedR l s).2 = 0) : 1 ≤ (namedR l s).1 ∧ (namedR l s).1 ≤ l.length := by
 unfold namedR at h ⊢
 cases e : findB s l 0 with
 | none => rw [e] at h; cases h
 | some i =>
  obtain ⟨-, -, h3⟩ := findB_some e;dsimp only;omega
theorem oper_may {kd : Int} {t : List ByteArray} (h1 : 1 ≤ kd) (h2 : kd ≤ 10) (h : (operR kd t).2 = 0) : mayN kd (operR kd t).1 = true := by
 by_cases e1 : 3 < kd
 ·have e : (operR kd t).1 = 0 := by unfold operR; rw [if_pos e1]
  rw [e];unfold mayN;rw [if_neg (by omega), if_neg (by omega), if_neg (by omega)];exact decide_eq_true ⟨by omega, h2, rfl⟩
 ·match t, h with
  | [], h =>
   exfalso
   have e : (operR kd []).2 = 5 := by unfold operR; rw [if_neg e1]
   rw [e] at h
   cases h
  | x :: y :: z, h =>
   exfalso
   have e : (operR kd (x :: y :: z)).2 = 5 := by unfold operR; rw [if_neg e1]
   rw [e] at h
   cases h
  | [x], h =>
   have e0 : operR kd [x] = if kd = 1 then namedR lvlL x else if kd = 2 then namedR polL x else if prE (by_ x) ≠ 0 then (0, prE (by_ x)) else if prN (by_ x) < 0 then (0, 2) else (prN (by_ x), 0) := by unfold operR; rw [if_neg e1]
   by_cases k1 : kd = 1
   ·rw [if_pos k1] at e0;rw [e0] at h ⊢;have := namedR_le h;unfold mayN;rw [if_pos k1];exact decide_eq_true ⟨this.1, this.2⟩
   ·rw [if_neg k1] at e0
    by_cases k2 : kd = 2
    ·rw [if_pos k2] at e0;rw [e0] at h ⊢;have := namedR_le h;unfold mayN;rw [if_neg k1, if_pos k2];exact decide_eq_true ⟨this.1, this.2⟩
    ·rw [if_neg k2] at e0
     by_cases e2 : prE (by_ x) = 0
     ·rw [if_neg (by simpa using e2)] at e0
      by_cases e3 : prN (by_ x) < 0
      ·rw [if_pos e3] at e0;rw [e0] at h
       cases h
      ·rw [if_neg e3] at e0;rw [e0];unfold mayN;rw [if_neg k1, if_neg k2, if_pos (by omega)];exact decide_eq_true (by dsimp only; omega)
     ·rw [if_pos e2] at e0;rw [e0] at h;exact absurd h e2
theorem cmd_may {w : ByteArray} {t : List ByteArray} (h : (cmdR w t).2.2 = 0) (i : Int) : mayC ⟨i, (cmdR w t).1, (cmdR w t).2.1⟩ = true := by
 unfold mayC;dsimp only
 cases e : findB w kwL 0 with
 | none =>
  exfalso
  have e0 : cmdR w t = (0, 0, 5) := by unfold cmdR; rw [e]
  rw [e0] at h
  cases h
 | some k =>
  obtain ⟨-, -, h3⟩ := findB_some e;have hk : k < 10 := by simpa [kwL] using h3
  have e0 : cmdR w t = ((k : Int) + 1, (operR ((k : Int) + 1) t).1, (operR ((k : Int) + 1) t).2) := by unfold cmdR; rw [e]
  rw [e0] at h ⊢;exact oper_may (by omega) (by omega) h
theorem scr_may : ∀ (xs : List ByteArray) (i : Nat) (acc : List Cmd), (∀ x ∈ acc, mayC x = true) → ∀ x ∈ (scrGo xs i acc).1, mayC x = true
 | [], _, acc, h => h
 | s :: r, i, acc, h => by
  rw [scrGo]
  cases e : textsOf s with
  | nil => exact scr_may r (i + 1) acc h
  | cons w t =>
   dsimp only
   by_cases h1 : (cmdR w t).2.2 = 0
   ·rw [if_neg (by simpa using h1)]
    by_cases h2 : acc.length = 200
    ·rw [if_pos h2];intro x hx
     cases hx
    ·rw [if_neg h2];refine scr_may r (i + 1) _ (fun x hx => ?_);rcases List.mem_append.1 hx with hx | hx
     ·exact h x hx
     ·rw [List.mem_singleton] at hx;subst hx;exact cmd_may h1 _
   ·rw [if_pos h1];intro x hx
    cases hx
theorem scr_rise : ∀ (xs : List ByteArray) (i : Nat) (acc : List Cmd), (acc.Pairwise fun a b => a.row < b.row) → (∀ x ∈ acc, 1 ≤ x.row ∧ x.row ≤ (i : Int)) → ((scrGo xs i acc).1.Pairwise fun a b => a.row < b.row) ∧ ∀ x ∈ (scrGo xs i acc).1, 1 ≤ x.row
 | [], _, acc, h, hb => ⟨h, fun x hx => (hb x hx).1⟩
 | s :: r, i, acc, h, hb => by
  rw [scrGo]
  cases e : textsOf s with
  | nil => exact scr_rise r (i + 1) acc h (fun x hx => by have := hb x hx; omega)
  | cons w t =>
   dsimp only
   by_cases h1 : (cmdR w t).2.2 = 0
   ·rw [if_neg (by simpa using h1)]
    by_cases h2 : acc.length = 200
    ·rw [if_pos h2];exact ⟨List.Pairwise.nil, fun x hx => by cases hx⟩
    ·rw [if_neg h2];refine scr_rise r (i + 1) _ ?_ (fun x hx => ?_)
     ·rw [List.pairwise_append];refine ⟨h, List.pairwise_singleton _ _, fun a ha b hb2 => ?_⟩;rw [List.mem_singleton] at hb2;subst hb2;have := hb a ha;dsimp only;omega
     ·rcases List.mem_append.1 hx with hx | hx
      ·have := hb x hx;omega
      ·rw [List.mem_singleton] at hx;subst hx;dsimp only;omega
   ·rw [if_pos h1];exact ⟨List.Pairwise.nil, fun x hx => by cases hx⟩
end Go.Proofs.YtojpohmijlkagaaDoor
