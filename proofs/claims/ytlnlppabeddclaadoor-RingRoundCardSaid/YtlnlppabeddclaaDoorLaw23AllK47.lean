/- Parts. -/
import Derived.Test.YtlnlppabeddclaaDoorLaw23AllK46
import Derived.Test.YtlnlppabeddclaaDoorLaw23AllK28
set_option maxRecDepth 10000
set_option maxHeartbeats 16000000
set_option linter.unusedVariables false
set_option linter.unusedSimpArgs false
namespace Go.Proofs.YtlnlppabeddclaaDoor
open Go.RowKit
attribute [local go_sem ↓] Go.wp_at_zero Go.wp_at_succ
def roundTo (n : Nat) (h : List (Int × Int)) (k : Nat) : Bool := (List.range k).any fun a => wayB n h a a
theorem roundTo_succ (n : Nat) (h : List (Int × Int)) (k : Nat) : roundTo n h (k + 1) = (roundTo n h k || wayB n h k k) := by
 unfold roundTo;rw [List.range_succ, List.any_append];simp
theorem reach_self {n : Nat} {h : List (Int × Int)} {a b : Nat} (hb : b < n) : decide ((b : Int) ∈ reachL n h a) = wayB n h a b := by
 cases hw : wayB n h a b with
 | true => exact decide_eq_true (mem_reach.2 ⟨b, rfl, hb, hw⟩)
 | false =>
  refine decide_eq_false fun hm => ?_;obtain ⟨c, hc, -, h2⟩ := mem_reach.1 hm;obtain rfl : b = c := by omega
  rw [hw] at h2
  cases h2
theorem roundTo_true {n : Nat} {h : List (Int × Int)} {k : Nat} (hk : k < n) (hw : wayB n h k k = true) : roundB n h = true := List.any_eq_true.2 ⟨k, List.mem_range.2 hk, hw⟩
theorem rround_any (n : Nat) (A : Option Addr) (m c B : Nat) (l : List (Int × Int)) (w : World) (hr : Row w B A (edgeC l)) (hl : l.length = m) (hm : m ≤ 100000) (hn : n ≤ 500) (wf : WfE n l) :
  Calls Tryd.prog 18 #[.int .i64 (n : Int), .slice A m c] w fun e w' => e = .returned (.bool (roundB n l)) ∧ Only [] w w' := by
 have HF := Hd (fun (a : Nat) w' (O : Only [] w w') => rfrom_any n a A m c B l w' (hr.only O (by simp)) hl hm hn wf);clear hr hl wf;go_enter Tryd.func18, Tryd.ntmps18;go_wp2_with fail
 go_loopw [5] (fun av wr => ∃ a : Nat, av = .int .i64 a ∧ a ≤ n ∧ Hid (roundTo n l a = false) ∧ Hid (Only [] w wr)) (fun av _ => n - (intOf av).toNat)
 case atStart => exact ⟨0, rfl, by omega, Hd rfl, Hd (Only.refl [] w)⟩
 case round =>
  obtain ⟨a, rfl, ha, hR, hO⟩ := hrel
  by_cases hlt : a < n
  ·have h01 : (a : Int) < (n : Int) := by omega
   have ha0 : (0 : Int) ≤ (a : Int) := Int.natCast_nonneg _;have hwa : IntKind.i64.wrap ((a : Int) + 1) = (a : Int) + 1 := IntWalk.i64_in _ (by omega);go_wp2_with fail
   refine (HF.out a wr hO.out).mono ?_;rintro e w2 ⟨A2, c2, ⟨rfl, hX⟩, O2⟩;have HX := Hd (row_of_own hX);have HO2 := Hd (hO.out.trans O2);have hq := reach_len n l a;have HE := Hd (reach_self (n := n) (h := l) (a := a) (b := a) hlt);have HS := Hd (roundTo_succ n l a);have HT := Hd (fun hw => roundTo_true (n := n) (h := l) hlt hw);clear O2 hX hO;generalize reachL n l a = X at *;go_wp2_with fail
   refine (hasInt_any A2 X.length c2 _ X (a : Int) w2 rfl (by omega) HX.out).mono ?_;rintro e w3 ⟨rfl, rfl⟩;rw [HE.out]
   cases hw : wayB n l a a with
   | true =>
    have HRB := Hd (HT.out hw);clear hw;go_wp2
    go_ret
    exact ⟨by rw [HRB.out]; rfl, HO2.out⟩
   | false =>
    have HRN : Hid (roundTo n l (a + 1) = false) := Hd (by rw [HS.out, hR.out, hw]; rfl);clear hw;go_wp2
    go_roundw
    case rel => first | exact ⟨a + 1, by go_num, by omega, HRN, HO2⟩ | exact ⟨_, ⟨a + 1, by go_num, by omega, HRN, HO2⟩, rfl⟩
    case measure => simp [intOf]; omega
  ·have han : a = n := by omega
   subst han;have hd : decide ((a : Int) < (a : Int)) = false := by simp
   have HRB : Hid (roundB a l = false) := Hd hR.out;go_wp2
   go_ret
   exact ⟨by rw [HRB.out]; rfl, hO.out⟩
end Go.Proofs.YtlnlppabeddclaaDoor
