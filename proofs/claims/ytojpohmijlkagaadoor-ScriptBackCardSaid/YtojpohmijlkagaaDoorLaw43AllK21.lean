/- Parts. -/
import Derived.Test.YtojpohmijlkagaaDoorLaw43AllK19
import Derived.Test.YtojpohmijlkagaaDoorLaw43AllK20
set_option maxRecDepth 10000
set_option maxHeartbeats 16000000
set_option linter.unusedVariables false
set_option linter.unusedSimpArgs false
namespace Go.Proofs.YtojpohmijlkagaaDoor
open Go.RowKit
open Go.Lib hiding intOf
attribute [local go_sem ↓] Go.wp_at_zero Go.wp_at_succ
def wcC (ws : List (ByteArray × Int)) : List Value := ws.flatMap fun x => [.string x.1, .int .i64 x.2]
theorem wcC_len (ws : List (ByteArray × Int)) : (wcC ws).length = ws.length * 2 := by
 induction ws with
 | nil => rfl
 | cons x l ih => unfold wcC at ih ⊢; rw [List.flatMap_cons, List.length_append, ih, List.length_cons]; simp; omega
theorem operR_many {kd : Int} {t : List ByteArray} (h : ¬ 3 < kd) (hl : t.length ≠ 1) : operR kd t = (0, 5) := by
 unfold operR;rw [if_neg h]
 match t, hl with
 | [], _ => rfl
 | [x], hl => exact absurd rfl hl
 | x :: y :: z, _ => rfl
theorem soperand_any (kd : Int) (A : Option Addr) (n c B : Nat) (ws : List (ByteArray × Int)) (w : World) (hT : Scrs w) (hg : Row w B A (wcC ws)) (hn : ws.length = n) (hM : n ≤ 100000) (hs : ∀ x ∈ ws, x.1.size ≤ 65537) :
  Calls Tryd.prog 21 #[.int .i64 kd, .slice A n c] w fun e w' => e = .returned (.tuple #[.int .i64 (operR kd (ws.map Prod.fst)).1, .int .i64 (operR kd (ws.map Prod.fst)).2]) ∧ w = w' := by
 by_cases h3 : 3 < kd
 ·have e0 : operR kd (ws.map Prod.fst) = (0, if n = 0 then 0 else 5) := by unfold operR; rw [if_pos h3, List.length_map, hn]
  rw [e0];clear e0 hT hg hs hn;dsimp only
  by_cases h0 : n = 0
  ·subst h0;rw [if_pos rfl];go_enter Tryd.func21, Tryd.ntmps21;go_wp2
   go_ret2
   exact ⟨rfl, rfl⟩
  ·rw [if_neg h0];have hp : (0 : Int) < (n : Int) := by omega
   clear h0;go_enter Tryd.func21, Tryd.ntmps21;go_wp2
   go_ret2
   exact ⟨rfl, rfl⟩
 ·have d3 : decide (3 < kd) = false := decide_eq_false h3
  by_cases h1 : n = 1
  ·subst h1;obtain ⟨⟨x, q⟩, rfl⟩ : ∃ x, ws = [x] := List.length_eq_one_iff.1 hn;have hx := hs (x, q) List.mem_cons_self;dsimp only at hx;obtain ⟨b, off, rfl, -, hbw, hc⟩ := hg.open_ (k := 0) (by rw [wcC_len]; simp);have c0' := hc 0 (.string x) rfl;rw [Nat.add_zero] at c0';have e0 : operR kd [x] = if kd = 1 then namedR lvlL x else if kd = 2 then namedR polL x else if prE (by_ x) ≠ 0 then (0, prE (by_ x)) else if prN (by_ x) < 0 then (0, 2) else (prN (by_ x), 0) := by unfold operR; rw [if_neg h3]
   rw [show ([(x, q)] : List (ByteArray × Int)).map Prod.fst = [x] from rfl, e0];have HL := Hd (named_lvl x w (by omega) hT);have HP := Hd (named_pol x w (by omega) hT);have HD := Hd (parse_any x w (by omega));clear hT hg hn hs hc e0 h3
   by_cases k1 : kd = 1
   ·subst k1;rw [if_pos rfl];clear HP HD;generalize namedR lvlL x = r at *;go_enter Tryd.func21, Tryd.ntmps21;go_wp2_with fail
    refine (HL.out).mono ?_;rintro e w2 ⟨rfl, rfl⟩;go_wp2
    go_ret2
    exact ⟨rfl, rfl⟩
   ·rw [if_neg k1]
    by_cases k2 : kd = 2
    ·subst k2;rw [if_pos rfl];clear HL HD;generalize namedR polL x = r at *;go_enter Tryd.func21, Tryd.ntmps21;go_wp2_with fail
     refine (HP.out).mono ?_;rintro e w2 ⟨rfl, rfl⟩;go_wp2
     go_ret2
     exact ⟨rfl, rfl⟩
    ·rw [if_neg k2];have q1 : (kd == 1) = false := by simpa using k1
     have q2 : (kd == 2) = false := by simpa using k2
     rw [show x.data.toList = by_ x from rfl] at HD;generalize prE (by_ x) = pe at *;generalize prN (by_ x) = pn at *;clear HL HP k1 k2
     by_cases e1 : pe = 0
     ·subst e1;rw [if_neg (by decide)]
      by_cases e2 : pn < 0
      ·rw [if_pos e2];go_enter Tryd.func21, Tryd.ntmps21;go_wp2_with fail
       refine (HD.out).mono ?_;rintro e w2 ⟨rfl, rfl⟩;go_wp2
       go_ret2
       exact ⟨rfl, rfl⟩
      ·rw [if_neg e2];have d2 : decide (pn < 0) = false := decide_eq_false e2;clear e2;go_enter Tryd.func21, Tryd.ntmps21;go_wp2_with fail
       refine (HD.out).mono ?_;rintro e w2 ⟨rfl, rfl⟩;go_wp2
       go_ret2
       exact ⟨rfl, rfl⟩
     ·rw [if_pos e1];have f1 : (pe == 0) = false := by simpa using e1
      have f2 : (pe != 0) = true := by simpa using e1
      clear e1;go_enter Tryd.func21, Tryd.ntmps21;go_wp2_with fail
      refine (HD.out).mono ?_;rintro e w2 ⟨rfl, rfl⟩;go_wp2
      go_ret2
      exact ⟨rfl, rfl⟩
  ·have e0 : operR kd (ws.map Prod.fst) = (0, 5) := operR_many h3 (by rw [List.length_map, hn]; exact h1);rw [e0];dsimp only;have f1 : ((n : Int) != 1) = true := by simp; omega
   clear e0 hT hg hs hn h3 h1;go_enter Tryd.func21, Tryd.ntmps21;go_wp2
   go_ret2
   exact ⟨rfl, rfl⟩
theorem lvlT_ne (n : Int) : ((lvlT n).toList == []) = !mayN 1 n := by
 unfold mayN;rw [if_pos rfl];unfold lvlT
 by_cases h : 1 ≤ n ∧ n ≤ 3
 ·rw [if_pos h, decide_eq_true h];have : n = 1 ∨ n = 2 ∨ n = 3 := by omega
  rcases this with rfl | rfl | rfl <;> rw [Lib.toList_data] <;> rfl
 ·rw [if_neg h, decide_eq_false h, Lib.toList_data]
  rfl
theorem polT_ne (n : Int) : ((polT n).toList == []) = !mayN 2 n := by
 unfold mayN;rw [if_neg (by decide), if_pos rfl];unfold polT
 by_cases h : 1 ≤ n ∧ n ≤ 2
 ·rw [if_pos h, decide_eq_true h];have : n = 1 ∨ n = 2 := by omega
  rcases this with rfl | rfl <;> rw [Lib.toList_data] <;> rfl
 ·rw [if_neg h, decide_eq_false h, Lib.toList_data]
  rfl
theorem smay_any (r k n : Int) (w : World) (hT : Scrs w) :
  Calls Tryd.prog 15 #[.agg #[.int .i64 r, .int .i64 k, .int .i64 n]] w fun e w' => e = .returned (.bool (mayN k n)) ∧ Only [] w w' := by
 have HO := Hd ((Only.refl [] w).alloc (.cells #[.int .i64 r, .int .i64 k, .int .i64 n] 40));have HL := Hd (tlevel_any n _ (hT.only HO.out));have HP := Hd (tpolicy_any n _ (hT.only HO.out));have HLN := lvlT_ne n;have HPN := polT_ne n;clear hT
 by_cases k1 : k = 1
 ·subst k1;generalize mayN 1 n = b at *;generalize lvlT n = x at *;have hx : (x.toList != []) = b := by rw [bne, HLN]; simp
  clear HP HPN;go_enter Tryd.func15, Tryd.ntmps15;go_wp2_with fail
  refine (HL.out).mono ?_;rintro e w2 ⟨rfl, rfl⟩;go_wp2
  go_ret
  exact ⟨by first | rfl | rw [hx], HO.out⟩
 ·by_cases k2 : k = 2
  ·subst k2;generalize mayN 2 n = b at *;generalize polT n = x at *;have hx : (x.toList != []) = b := by rw [bne, HPN]; simp
   clear HL HLN;go_enter Tryd.func15, Tryd.ntmps15;go_wp2_with fail
   refine (HP.out).mono ?_;rintro e w2 ⟨rfl, rfl⟩;go_wp2
   go_ret
   exact ⟨by first | rfl | rw [hx], HO.out⟩
  ·have q1 : (k == 1) = false := by simpa using k1
   have q2 : (k == 2) = false := by simpa using k2
   clear HL HP HLN HPN
   by_cases k3 : k = 3
   ·subst k3;have e0 : mayN 3 n = decide (0 ≤ n) := by unfold mayN; rw [if_neg (by decide), if_neg (by decide), if_pos rfl]
    rw [e0];clear e0 k1 k2;go_enter Tryd.func15, Tryd.ntmps15;go_wp2
    go_ret
    exact ⟨by first | rfl | (by_cases h : 0 ≤ n <;> simp [h]), HO.out⟩
   ·have q3 : (k == 3) = false := by simpa using k3
    have e0 : mayN k n = decide (4 ≤ k ∧ k ≤ 10 ∧ n = 0) := by unfold mayN; rw [if_neg k1, if_neg k2, if_neg k3]
    rw [e0];clear e0
    by_cases h1 : 3 < k
    ·by_cases h2 : k ≤ 10
     ·obtain ⟨b, hb⟩ : ∃ b, (n == 0) = b := ⟨_, rfl⟩;have e1 : decide (4 ≤ k ∧ k ≤ 10 ∧ n = 0) = b := by
       rw [← hb]
       by_cases h : n = 0
       ·rw [decide_eq_true ⟨by omega, h2, h⟩]; simp [h]
       ·rw [decide_eq_false (fun e => h e.2.2)]; simp [h]
      rw [e1];have d1 : decide (3 < k) = true := decide_eq_true h1;have d2 : decide (k ≤ 10) = true := decide_eq_true h2;clear e1 h1 h2 k1 k2 k3;go_enter Tryd.func15, Tryd.ntmps15;go_wp2
      go_ret
      exact ⟨by first | rfl | rw [hb], HO.out⟩
     ·rw [decide_eq_false (fun e => h2 e.2.1)];have d1 : decide (3 < k) = true := decide_eq_true h1;have d2 : decide (k ≤ 10) = false := decide_eq_false h2;clear h1 h2 k1 k2 k3;go_enter Tryd.func15, Tryd.ntmps15;go_wp2
      go_ret
      exact ⟨rfl, HO.out⟩
    ·rw [decide_eq_false (fun e => h1 (by omega))];have d1 : decide (3 < k) = false := decide_eq_false h1;clear h1 k1 k2 k3;go_enter Tryd.func15, Tryd.ntmps15;go_wp2
     go_ret
     exact ⟨rfl, HO.out⟩
def shownT (k n : Int) : List ByteArray := if k = 1 then [lvlT n] else if k = 2 then [polT n] else if k = 3 then [⟨(Lib.itoa n).toArray⟩] else []
theorem shownT_words {x : Cmd} (h : mayC x = true) : wordsC x = kwL.getD (x.kind - 1).toNat ⟨#[]⟩ :: shownT x.kind x.n := by
 unfold wordsC shownT;unfold mayC mayN at h
 congr 1
 by_cases e1 : x.kind = 1
 ·rw [if_pos e1] at h ⊢;have := of_decide_eq_true h;rw [if_pos e1];unfold lvlT;rw [if_pos this]
 ·rw [if_neg e1] at h ⊢;rw [if_neg e1]
  by_cases e2 : x.kind = 2
  ·rw [if_pos e2] at h ⊢;have := of_decide_eq_true h;rw [if_pos e2];unfold polT;rw [if_pos this]
  ·rw [if_neg e2, if_neg e2]
theorem shown_any (r k n : Int) (w : World) (hT : Scrs w) (h1 : -9223372036854775808 ≤ n) (h2 : n ≤ 9223372036854775807) :
  Calls Tryd.prog 27 #[.agg #[.int .i64 r, .int .i64 k, .int .i64 n]] w fun e w' => ∃ A c, (e = .returned (.slice A (shownT k n).length c) ∧ Row w' w'.heap.size A (strs (shownT k n)) ∧ (shownT k n).length ≤ c ∧ c ≤ maxLen) ∧ Only [] w w' := by
 have HO := Hd ((Only.refl [] w).alloc (.cells #[.int .i64 r, .int .i64 k, .int .i64 n] 40));have HL := Hd (tlevel_any n _ (hT.only HO.out));have HP := Hd (tpolicy_any n _ (hT.only HO.out));have HD := Hd (fun w' => print_any n w' h1 h2);clear hT h1 h2;unfold shownT
 by_cases k1 : k = 1
 ·subst k1;rw [if_pos rfl];clear HP HD;go_enter Tryd.func27, Tryd.ntmps27;go_wp2_with fail
  refine (HL.out).mono ?_;rintro e w2 ⟨rfl, hw2⟩;have HO2 : Hid (Only [] w w2) := Hd (hw2 ▸ HO.out);clear hw2;go_wp2
  go_ret
  exact ⟨_, _, ⟨rfl, row_up (row_lit _ 9 #[.string (lvlT n)]), by simp, by unfold maxLen; omega⟩, HO2.out.alloc _⟩
 ·rw [if_neg k1]
  by_cases k2 : k = 2
  ·subst k2;rw [if_pos rfl];clear HL HD;go_enter Tryd.func27, Tryd.ntmps27;go_wp2_with fail
   refine (HP.out).mono ?_;rintro e w2 ⟨rfl, hw2⟩;have HO2 : Hid (Only [] w w2) := Hd (hw2 ▸ HO.out);clear hw2;go_wp2
   go_ret
   exact ⟨_, _, ⟨rfl, row_up (row_lit _ 9 #[.string (polT n)]), by simp, by unfold maxLen; omega⟩, HO2.out.alloc _⟩
  ·rw [if_neg k2];have q1 : (k == 1) = false := by simpa using k1
   have q2 : (k == 2) = false := by simpa using k2
   clear HL HP k1 k2
   by_cases k3 : k = 3
   ·subst k3;rw [if_pos rfl];go_enter Tryd.func27, Tryd.ntmps27;go_wp2_with fail
    refine (HD.out _).mono ?_;rintro e w2 ⟨rfl, O2⟩;have HO2 := Hd (HO.out.trans O2);clear O2;go_wp2
    go_ret
    exact ⟨_, _, ⟨rfl, row_up (row_lit _ 9 #[.string ⟨(Lib.itoa n).toArray⟩]), by simp, by unfold maxLen; omega⟩, HO2.out.alloc _⟩
   ·rw [if_neg k3];have q3 : (k == 3) = false := by simpa using k3
    clear k3 HD;go_enter Tryd.func27, Tryd.ntmps27;go_wp2
    go_ret
    first | exact ⟨none, 0, ⟨rfl, .inl rfl, by simp, by unfold maxLen; omega⟩, HO.out⟩ | exact ⟨none, ⟨0, rfl, .inl rfl, by simp, by unfold maxLen; omega⟩, HO.out⟩
end Go.Proofs.YtojpohmijlkagaaDoor
namespace Go.Proofs.YtojpohmijlkagaaDoor
open Go.RowKit
structure Ev6 where
 k : Int
 s : ByteArray
 y : ByteArray
 vk : Int
 vn : Int
 ln : Int
def Ev6.c (x : Ev6) : List Value := [.int .i64 x.k, .string x.s, .string x.y, .int .i64 x.vk, .int .i64 x.vn, .int .i64 x.ln]
structure EvAt (w : World) (b o : Nat) (x : Ev6) : Prop where
 c0 : w.cell? ⟨b, o, none⟩ = some (.int .i64 x.k)
 c1 : w.cell? ⟨b, o + 1, none⟩ = some (.string x.s)
 c2 : w.cell? ⟨b, o + 2, none⟩ = some (.string x.y)
 c3 : w.cell? ⟨b, o + 3, none⟩ = some (.int .i64 x.vk)
 c4 : w.cell? ⟨b, o + 4, none⟩ = some (.int .i64 x.vn)
 c5 : w.cell? ⟨b, o + 5, none⟩ = some (.int .i64 x.ln)
theorem EvAt.only {S : List Nat} {w w' : World} {b o : Nat} {x : Ev6} (h : EvAt w b o x) (ho : Only S w w') (hb : b < w.heap.size) (hs : b ∉ S) : EvAt w' b o x :=
 ⟨(ho.cell (p := ⟨b, o, none⟩) hb hs).trans h.c0, (ho.cell (p := ⟨b, o + 1, none⟩) hb hs).trans h.c1, (ho.cell (p := ⟨b, o + 2, none⟩) hb hs).trans h.c2, (ho.cell (p := ⟨b, o + 3, none⟩) hb hs).trans h.c3,
  (ho.cell (p := ⟨b, o + 4, none⟩) hb hs).trans h.c4, (ho.cell (p := ⟨b, o + 5, none⟩) hb hs).trans h.c5⟩
end Go.Proofs.YtojpohmijlkagaaDoor
