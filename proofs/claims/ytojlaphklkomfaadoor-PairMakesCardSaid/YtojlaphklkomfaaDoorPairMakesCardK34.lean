/- Parts. -/
import Derived.Lib.ItoaNum
import Derived.Lib.Strings
import Derived.Laws.BytesArg
import Derived.Lib.SmallJoins
import Derived.Test.YtojlaphklkomfaaDoorPairMakesCardK33
set_option maxRecDepth 10000
set_option maxHeartbeats 16000000
set_option linter.unusedVariables false
set_option linter.unusedSimpArgs false
namespace Go.Proofs.YtojlaphklkomfaaDoor
open Go.RowKit
theorem rmay_any (k n : Int) (w : World) : Calls Tryd.prog 52 #[.agg #[.int .i64 k, .int .i64 n]] w fun e w' => e = .returned (.bool (mayB k n)) ∧ Only [] w w' := by
 unfold mayB
 by_cases h1 : k = 1
 ·subst h1;go_enter Tryd.func52, Tryd.ntmps52;go_wp2
  go_ret
  exact ⟨by simp, (Only.refl _ _).alloc _⟩
 ·have h1' : (k == 1) = false := by simp [h1]
  have H1 := Hd h1;clear h1
  by_cases h0 : k = 0
  ·subst h0;go_enter Tryd.func52, Tryd.ntmps52;go_wp2
   go_ret
   exact ⟨ret_boolv (by simp; try (rw [Bool.eq_iff_iff]; simp)), (Only.refl _ _).alloc _⟩
  ·have h0' : (k == 0) = false := by simp [h0]
   have H0 := Hd h0;clear h0
   by_cases h2 : k = 2
   ·subst h2;go_enter Tryd.func52, Tryd.ntmps52;go_wp2
    go_ret
    exact ⟨ret_boolv (by simp; try (rw [Bool.eq_iff_iff]; simp)), (Only.refl _ _).alloc _⟩
   ·have h2' : (k == 2) = false := by simp [h2]
    have H2 := Hd h2;clear h2;go_enter Tryd.func52, Tryd.ntmps52;go_wp2
    go_ret
    exact ⟨ret_boolv (by simp [H0.out, H1.out, H2.out]), (Only.refl _ _).alloc _⟩
end Go.Proofs.YtojlaphklkomfaaDoor
namespace Go.Proofs.YtojlaphklkomfaaDoor
open Go.Lib
def val (l : List UInt8) : Nat := l.foldl (fun n c => n * 10 + (c.toNat - 48)) 0
def neg (l : List UInt8) : Bool := l.head? == some 45
def rest (l : List UInt8) : List UInt8 := if neg l then l.drop 1 else l
def ahead (b : Bool) (u : Nat) : List UInt8 := if b || decide (0 < u) then decDigits u else []
end Go.Proofs.YtojlaphklkomfaaDoor
namespace Go.Proofs.YtojlaphklkomfaaDoor
open Go.RowKit


def Tail (cs : Array Value) (k : Nat) (l : List UInt8) : Prop := cs.size = 20 ∧ k + l.length = 20 ∧ ∀ j c, l[j]? = some c → cs[k + j]? = some (.int .u8 c.toNat)
theorem Tail.push {cs : Array Value} {k : Nat} {l : List UInt8} (h : Tail cs (k + 1) l) (c : UInt8) : Tail (cs.setIfInBounds k (.int .u8 c.toNat)) k (c :: l) := by
 obtain ⟨h1, h2, h3⟩ := h;refine ⟨by simp [h1], by simp; omega, fun j d hj => ?_⟩
 cases j with
 | zero =>
  simp at hj;subst hj;rw [Nat.add_zero, Array.getElem?_setIfInBounds];simp;omega
 | succ j =>
  rw [List.getElem?_cons_succ] at hj;rw [Array.getElem?_setIfInBounds, if_neg (by omega)];rw [show k + (j + 1) = k + 1 + j by omega];exact h3 j d hj
theorem Tail.old {cs : Array Value} {k : Nat} {l : List UInt8} (h : Tail cs (k + 1) l) : ∃ x, cs[k]? = some x := by
 obtain ⟨h1, h2, _⟩ := h;exact ⟨_, Array.getElem?_eq_getElem (by omega)⟩


end Go.Proofs.YtojlaphklkomfaaDoor
namespace Go.Proofs.YtojlaphklkomfaaDoor
open Go.RowKit Go.ChangeShapes Go.WideShapes Go.ChangeAt Go.Joins Go.Deep
section
variable {H : Type} {enc : TypeId × Value → H} {P : Program} {w : World}
end
end Go.Proofs.YtojlaphklkomfaaDoor
namespace Go.Proofs.YtojlaphklkomfaaDoor
open Go.RowKit




open Go.Lib hiding intOf
attribute [local go_sem ↓] Go.wp_at_zero Go.wp_at_succ
theorem revmay_any (k : Int) (s y : ByteArray) (vk vn ln : Int) (w : World) (hs : s.size ≤ 65537) (hy : y.size ≤ 65537) :
  Calls Tryd.prog 38 #[.agg #[.int .i64 k, .string s, .string y, .int .i64 vk, .int .i64 vn, .int .i64 ln]] w fun e w' => e = .returned (.bool (evOk k s y vk vn)) ∧ Only [] w w' := by
 have HS := Hd (fun w' => ris_any s w' hs);have HY := Hd (fun w' => ris_any y w' hy);have HM := Hd (fun w' => rmay_any vk vn w');obtain ⟨r, hr⟩ : ∃ r, r = evOk k s y vk vn := ⟨_, rfl⟩;rw [← hr];obtain ⟨ns, hns⟩ : ∃ x, x = isName s := ⟨_, rfl⟩;obtain ⟨ny, hny⟩ : ∃ x, x = isName y := ⟨_, rfl⟩;obtain ⟨mv, hmv⟩ : ∃ x, x = mayB vk vn := ⟨_, rfl⟩;unfold evOk at hr;rw [← hns, ← hny, ← hmv] at hr;rw [← hns] at HS;rw [← hny] at HY;rw [← hmv] at HM;have HR := Hd hr;have HO := Hd ((Only.refl [] w).alloc (.cells #[.int .i64 k, .string s, .string y, .int .i64 vk, .int .i64 vn, .int .i64 ln] 44));have HE := Hd (Blk.made w 44 #[.int .i64 k, .string s, .string y, .int .i64 vk, .int .i64 vn, .int .i64 ln]);clear hr hns hny hmv hs hy
 by_cases hk1 : k < 1
 ·have HK := Hd (show kOk k = false from decide_eq_false (by omega));go_enter Tryd.func38, Tryd.ntmps38;go_wp2
  go_ret
  exact ⟨by rw [HR.out, HK.out]; rfl, HO.out⟩
 by_cases hk6 : 6 < k
 ·have HK := Hd (show kOk k = false from decide_eq_false (by omega));go_enter Tryd.func38, Tryd.ntmps38;go_wp2
  go_ret
  exact ⟨by rw [HR.out, HK.out]; rfl, HO.out⟩
 have hcase : ((k == 2) = false ∧ (k == 3) = false ∧ (k != 2) = true ∧ (k != 3) = true ∧ r = (ns && (decide (y = ⟨#[]⟩) && decide (vk = 0 ∧ vn = 0)))) ∨ (k = 2 ∧ r = (ns && (ny && mv))) ∨ (k = 3 ∧ r = (ns && ((ny && mv) && decide (vk = 1)))) := by
  rw [HR.out, show kOk k = true from decide_eq_true (by omega)]
  by_cases h2 : k = 2
  ·subst h2; exact .inr (.inl ⟨rfl, by simp [kO]⟩)
  ·by_cases h3 : k = 3
   ·subst h3; exact .inr (.inr ⟨rfl, by simp [kO]; by_cases h : vk = 1 <;> simp [h]⟩)
   ·exact .inl ⟨by simp [h2], by simp [h3], by simp [h2], by simp [h3], by simp [kO, h2, h3]⟩
 clear HR;rcases hcase with ⟨q1, q2, q3, q4, q5⟩ | ⟨rfl, q5⟩ | ⟨rfl, q5⟩
 all_goals
  have HQ := Hd q5;clear q5;go_enter Tryd.func38, Tryd.ntmps38;go_wp2_with fail
  refine (HS.out _).mono ?_;rintro e w1 ⟨rfl, O1⟩;have HO1 := Hd (HO.out.trans O1);have bE1 := O1.blk HE.out (by simp);have lE := bE1.lt;have f0 := bE1.at_ 0;have f2 := bE1.at_ 2;have f3 := bE1.at_ 3;have f4 := bE1.at_ 4;simp at f0 f2 f3 f4;clear O1
  cases ns with
  | false =>
   go_wp2
   go_ret
   exact ⟨by rw [HQ.out]; rfl, HO1.out⟩
  | true => ?_
 ·by_cases hy0 : y = ⟨#[]⟩
  ·subst hy0
   by_cases h1 : vk = 0
   ·subst h1
    by_cases h2 : vn = 0
    ·subst h2;go_wp2
     go_ret
     exact ⟨by rw [HQ.out]; rfl, HO1.out⟩
    ·have h2' : (vn == 0) = false := by simpa using h2
     have HX := Hd h2;clear h2;go_wp2
     go_ret
     exact ⟨by rw [HQ.out]; simp [HX.out], HO1.out⟩
   ·have h1' : (vk == 0) = false := by simpa using h1
    have HX := Hd h1;clear h1;go_wp2
    go_ret
    exact ⟨by rw [HQ.out]; simp [HX.out], HO1.out⟩
  ·have h0' : (y.toList == []) = false := (ev_ne (l := []) hy0).1;have HX := Hd hy0;clear hy0;go_wp2
   go_ret
   exact ⟨by rw [HQ.out]; simp [HX.out], HO1.out⟩
 ·clear hk1 hk6;go_wp2_with fail
  refine (HY.out _).mono ?_;rintro e w3 ⟨rfl, O3⟩;have HO3 := Hd (HO1.out.trans O3);have bE3 := O3.blk bE1 (by simp);clear f0 f2 f3 f4 lE O3;have lE := bE3.lt;have f0 := bE3.at_ 0;have f3 := bE3.at_ 3;have f4 := bE3.at_ 4;simp at f0 f3 f4
  cases ny with
  | false =>
   go_wp2
   go_ret
   exact ⟨by rw [HQ.out]; rfl, HO3.out⟩
  | true =>
   go_wp2_with fail
   refine (HM.out _).mono ?_;rintro e w4 ⟨rfl, O4⟩;have HO4 := Hd (HO3.out.trans O4);have bE4 := O4.blk bE3 (by simp);clear f0 f3 f4 lE O4;have lE := bE4.lt;have f0 := bE4.at_ 0;simp at f0
   cases mv <;>
   ·go_wp2
    go_ret
    exact ⟨by rw [HQ.out]; rfl, HO4.out⟩
 ·clear hk1 hk6;go_wp2_with fail
  refine (HY.out _).mono ?_;rintro e w3 ⟨rfl, O3⟩;have HO3 := Hd (HO1.out.trans O3);have bE3 := O3.blk bE1 (by simp);clear f0 f2 f3 f4 lE O3;have lE := bE3.lt;have f0 := bE3.at_ 0;have f3 := bE3.at_ 3;have f4 := bE3.at_ 4;simp at f0 f3 f4
  cases ny with
  | false =>
   go_wp2
   go_ret
   exact ⟨by rw [HQ.out]; rfl, HO3.out⟩
  | true =>
   go_wp2_with fail
   refine (HM.out _).mono ?_;rintro e w4 ⟨rfl, O4⟩;have HO4 := Hd (HO3.out.trans O4);have bE4 := O4.blk bE3 (by simp);clear f0 f3 f4 lE O4;have lE := bE4.lt;have f0 := bE4.at_ 0;have f3 := bE4.at_ 3;simp at f0 f3
   cases mv with
   | false =>
    go_wp2
    go_ret
    exact ⟨by rw [HQ.out]; rfl, HO4.out⟩
   | true =>
    by_cases h1 : vk = 1
    ·subst h1;go_wp2
     go_ret
     exact ⟨by rw [HQ.out]; rfl, HO4.out⟩
    ·have h1' : (vk == 1) = false := by simpa using h1
     have HX := Hd h1;clear h1;go_wp2
     go_ret
     exact ⟨by rw [HQ.out]; simp [HX.out], HO4.out⟩
end Go.Proofs.YtojlaphklkomfaaDoor
