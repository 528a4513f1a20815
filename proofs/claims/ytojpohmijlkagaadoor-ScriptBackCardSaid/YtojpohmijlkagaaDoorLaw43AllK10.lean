/- Parts. -/
import Derived.Test.YtojpohmijlkagaaDoorLaw43AllK9
import Derived.Lib.SmallJoins
import Derived.Lib.SlTrimSet
set_option maxRecDepth 10000
set_option maxHeartbeats 16000000
set_option linter.unusedVariables false
set_option linter.unusedSimpArgs false
namespace Go.Proofs.YtojpohmijlkagaaDoor
open Go.RowKit
theorem parse_text (s : ByteArray) (w : World) (h : s.size ≤ 9223372036854775807) (hd : digB s.data.toList = false) :
  Calls Tryd.prog 42 #[.string s] w fun e w' => e = .returned (.tuple #[.int .i64 (prN s.data.toList), .int .i64 (prE s.data.toList)]) ∧ w = w' := by
 have hc := digits_any s w h;rw [hd] at hc;have HC := Hd hc;have e1 : prE s.data.toList = 5 := by unfold prE; rw [if_pos hd]
 have e2 : prN s.data.toList = 0 := by unfold prN; rw [e1]; rfl
 rw [e1, e2];clear hc e1 e2 hd;go_enter Tryd.func42, Tryd.ntmps42;go_wp2_with fail
 refine HC.out.mono ?_;rintro e w' ⟨rfl, rfl⟩;go_wp2
 go_ret2
 exact ⟨rfl, rfl⟩
theorem parse_long (s : ByteArray) (w : World) (h : s.size ≤ 9223372036854775807) (hd : digB s.data.toList = true) (hl : 19 < (rest s.data.toList).length) :
  Calls Tryd.prog 42 #[.string s] w fun e w' => e = .returned (.tuple #[.int .i64 (prN s.data.toList), .int .i64 (prE s.data.toList)]) ∧ w = w' := by
 have hc := digits_any s w h;rw [hd] at hc;have HC := Hd hc;obtain ⟨e1, e2⟩ := prE_long hd hl;rw [e1, e2];clear hc e1 e2 hd;go_enter Tryd.func42, Tryd.ntmps42;go_wp2_with fail
 refine HC.out.mono ?_;rintro e w' ⟨rfl, rfl⟩;go_wp2_with fail
 refine (cut_dash s _ h).mono ?_;rintro e w' ⟨r, ⟨rfl, hr⟩, rfl⟩;rw [← hr, ← Lib.size_eq] at hl;clear hr;have hl' : (19 : Int) < r.size := by omega
 go_wp2
 go_ret2
 exact ⟨rfl, rfl⟩
theorem digit_at {t : List UInt8} {r : ByteArray} (hr : r.data.toList = t) (hall : t.all isDig = true) {k : Nat} (hk : k < r.size) : 48 ≤ r[k].toNat ∧ r[k].toNat ≤ 57 := by
 have := List.all_eq_true.1 hall r[k] (by rw [← hr, Array.mem_toList_iff]; exact Array.getElem_mem _);exact isDig_iff.1 this
theorem take_dig {t : List UInt8} (hall : t.all isDig = true) (k : Nat) : (t.take k).all isDig = true :=
 List.all_eq_true.2 fun x hx => List.all_eq_true.1 hall x (List.mem_of_mem_take hx)
theorem val_take_succ {r : ByteArray} {k : Nat} (hk : k < r.size) : val (r.data.toList.take (k + 1)) = val (r.data.toList.take k) * 10 + (r[k].toNat - 48) := by
 rw [List.take_succ_eq_append_getElem (by simpa using hk), val_snoc]
 rfl
theorem ret_pair {k : IntKind} {a b : Int} {x y : Int} (h : a = b) (h' : x = y) : Ending.returned (.tuple #[.int k a, .int .i64 x]) = .returned (.tuple #[.int k b, .int .i64 y]) := by rw [h, h']
theorem wrap_neg (v : Nat) (h : v ≤ 9223372036854775808) : wrap64 (IntKind.u64.wrap (-(v : Int))) = -(v : Int) := by
 unfold wrap64;simp only [IntKind.wrap, IntKind.bits, IntKind.signed];simp;omega
theorem parse_num (s : ByteArray) (w : World) (h : s.size ≤ 9223372036854775807) (hd : digB s.data.toList = true) (hl : (rest s.data.toList).length ≤ 19) :
  Calls Tryd.prog 42 #[.string s] w fun e w' => e = .returned (.tuple #[.int .i64 (prN s.data.toList), .int .i64 (prE s.data.toList)]) ∧ w = w' := by
 have hc := digits_any s w h;rw [hd] at hc;have HC := Hd hc;obtain ⟨_, hall, _⟩ := digB_parts hd;have HD := Hd hd;have HALL := Hd hall;clear hc hd hall;go_enter Tryd.func42, Tryd.ntmps42;go_wp2_with fail
 refine HC.out.mono ?_;rintro e w' ⟨rfl, rfl⟩;go_wp2_with fail
 refine (cut_dash s _ h).mono ?_;rintro e w' ⟨r, ⟨rfl, hr⟩, rfl⟩;have hl' : (r.size : Int) ≤ 19 := by rw [← hr, ← Lib.size_eq] at hl; omega
 have HR := Hd hr;clear hr hl;generalize hn : neg s.data.toList = n;have HN := Hd hn;clear hn;go_wp2
 go_loop [6, 21] (fun u j => ∃ k : Nat, k ≤ r.size ∧ j = .int .i64 k ∧ u = .int .u64 (val (r.data.toList.take k))) (fun _ j => r.size - (intOf j).toNat)
 case atStart => exact ⟨0, Nat.zero_le _, rfl, rfl⟩
 case round =>
  obtain ⟨k, hk, rfl, rfl⟩ := hrel
  by_cases hlt : k < r.size
  ·obtain ⟨hd1, hd2⟩ := digit_at HR.out HALL.out hlt;have hv : (val (r.data.toList.take k) : Int) ≤ 999999999999999999 := by
    have h1 := val_take_le r.data.toList k (by rw [HR.out]; exact take_dig HALL.out k);have h2 : 10 ^ k ≤ 10 ^ 18 := Nat.pow_le_pow_right (by decide) (by omega);omega
   have HS := Hd (val_take_succ hlt);generalize val (r.data.toList.take k) = v at *;go_wp2
   go_round
   case rel => exact ⟨k + 1, by omega, by go_num, by rw [HS.out]; congr 1; omega⟩
   case measure => simp [intOf]; omega
  ·have hv : val (r.data.toList.take k) = val (rest s.data.toList) := by rw [List.take_of_length_le (by rw [← Lib.size_eq]; omega), HR.out]
   rw [hv];have hb : (val (rest s.data.toList) : Int) ≤ 9999999999999999999 := by
    have h1 := val_bounds (rest s.data.toList) HALL.out;have h2 : 10 ^ (rest s.data.toList).length ≤ 10 ^ 19 := Nat.pow_le_pow_right (by decide) (by rw [← HR.out, ← Lib.size_eq]; omega);omega
   clear hv;generalize hV : val (rest s.data.toList) = v;have HV := Hd hV;clear hV;have HB := Hd hb;clear hb
   cases n with
   | true =>
    by_cases hle : (v : Int) ≤ 9223372036854775808
    ·have HF := Hd (pr_neg HD.out HN.out (by rw [HV.out]; omega));go_wp2
     go_ret2
     exact ⟨ret_pair (by rw [HF.out.2, HV.out]; exact wrap_neg v (by omega)) HF.out.1.symm, rfl⟩
    ·have hle' : (9223372036854775808 : Int) < v := by omega
     have HF := Hd (pr_neg_big HD.out HN.out (by rw [HV.out]; omega));go_wp2
     go_ret2
     exact ⟨ret_pair HF.out.2.symm HF.out.1.symm, rfl⟩
   | false =>
    by_cases hle : (v : Int) < 9223372036854775808
    ·have HF := Hd (pr_pos HD.out HN.out (by rw [HV.out]; omega));go_wp2
     go_ret2
     exact ⟨ret_pair (by rw [HF.out.2, HV.out]) HF.out.1.symm, rfl⟩
    ·have hle' : (9223372036854775808 : Int) ≤ v := by omega
     have HF := Hd (pr_pos_big HD.out HN.out (by rw [HV.out]; omega));go_wp2
     go_ret2
     exact ⟨ret_pair HF.out.2.symm HF.out.1.symm, rfl⟩
theorem parse_any (s : ByteArray) (w : World) (h : s.size ≤ 9223372036854775807) :
  Calls Tryd.prog 42 #[.string s] w fun e w' => e = .returned (.tuple #[.int .i64 (prN s.data.toList), .int .i64 (prE s.data.toList)]) ∧ w = w' := by
 cases hd : digB s.data.toList with
 | false => exact parse_text s w h hd
 | true =>
  rcases Nat.lt_or_ge 19 (rest s.data.toList).length with hl | hl
  ·exact parse_long s w h hd hl
  ·exact parse_num s w h hd hl
end Go.Proofs.YtojpohmijlkagaaDoor
namespace Go.Proofs.YtojpohmijlkagaaDoor
open Go.RowKit Go.ChangeShapes Go.WideShapes Go.ChangeAt Go.Joins Go.Deep
section
variable {H : Type} {enc : TypeId × Value → H} {P : Program} {w : World}
end
end Go.Proofs.YtojpohmijlkagaaDoor
namespace Go.Proofs.YtojpohmijlkagaaDoor
open Go.RowKit

attribute [local go_sem ↓] Go.wp_at_zero Go.wp_at_succ

end Go.Proofs.YtojpohmijlkagaaDoor
namespace Go.Proofs.YtojpohmijlkagaaDoor
open Go.RowKit
open Go.Lib hiding intOf
attribute [local go_sem ↓] Go.wp_at_zero Go.wp_at_succ
def colFrom (s : ByteArray) (a : Int) : Nat → Nat → Nat
 | 0, _ => 0
 | f + 1, pos => if pos < s.size ∧ (pos : Int) < a then 1 + colFrom s a f (pos + (Utf8.decode s pos).2) else 0
def colOf (s : ByteArray) (a : Int) : Nat := if validD (by_ s) = true then colFrom s a s.size 0 else 0
theorem colFrom_le (s : ByteArray) (a : Int) : ∀ f pos, colFrom s a f pos ≤ f
 | 0, _ => Nat.le_refl _
 | f + 1, pos => by
  have := colFrom_le s a f (pos + (Utf8.decode s pos).2);unfold colFrom
  split <;> omega
theorem colFrom_stop (s : ByteArray) (a : Int) (f pos : Nat) (h : ¬ (pos < s.size ∧ (pos : Int) < a)) : colFrom s a f pos = 0 := by
 cases f with
 | zero => rfl
 | succ f => rw [colFrom, if_neg h]
end Go.Proofs.YtojpohmijlkagaaDoor
namespace Go.Proofs.YtojpohmijlkagaaDoor
open Go.RowKit
open Go.Lib hiding intOf
def blanks : List UInt8 := [9, 13, 32]
end Go.Proofs.YtojpohmijlkagaaDoor
