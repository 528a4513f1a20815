/- Parts. -/
import Derived.Test.YtlnlppabeddclaaDoorLaw23AllK19
set_option maxRecDepth 10000
set_option maxHeartbeats 16000000
set_option linter.unusedVariables false
set_option linter.unusedSimpArgs false
namespace Go.Proofs.YtlnlppabeddclaaDoor
open Go.RowKit
attribute [local go_sem ↓] Go.wp_at_zero Go.wp_at_succ
def mayL (n : Int) (l : List (Int × Int)) : Bool := decide (0 ≤ n ∧ n ≤ 500) && l.all (goodE n.toNat)
theorem rmay_in (n : Nat) (A : Option Addr) (m c : Nat) (l : List (Int × Int)) (w : World) (hn : n ≤ 500) (hr : Row w w.heap.size A (edgeC l)) (hl : l.length = m) (hm : m ≤ 1000000) :
  Calls Tryd.prog 9 #[.int .i64 (n : Int), .slice A m c] w fun e w' => e = .returned (.bool (l.all (goodE n))) ∧ w = w' := by
 have HR := Hd hr;have HL := Hd hl;clear hr hl;have hd1 : ¬ (n : Int) < 0 := by omega
 have hd2 : ¬ (500 : Int) < (n : Int) := by omega
 have hd3 : decide (500 < n) = false := by simp; omega
 go_enter Tryd.func9, Tryd.ntmps9;go_wp2_with fail
 go_loopw [5] (fun i wr => ∃ k : Nat, i = .int .i64 k ∧ k ≤ m ∧ Hid ((l.take k).all (goodE n) = true) ∧ wr = w) (fun i _ => m - (intOf i).toNat)
 case atStart => exact ⟨0, rfl, by omega, Hd (by simp), rfl⟩
 case round =>
  obtain ⟨k, rfl, hk, hall, rfl⟩ := hrel
  by_cases hlt : k < m
  ·obtain ⟨bb, off, rfl, -, hbw, hc⟩ := HR.out.open_ (k := k * 2) (by rw [edgeC_len, HL.out]; omega);obtain ⟨e, he⟩ : ∃ e, l[k]? = some e := ⟨_, List.getElem?_eq_getElem (by rw [HL.out]; exact hlt)⟩;obtain ⟨x, y⟩ := e;have hee := edgeC_get l k _ he;have hc0 := hc _ _ hee.1;have hc1 := hc _ _ hee.2;rw [← Nat.add_assoc] at hc1;have hk0 : (0 : Int) ≤ (k : Int) := Int.natCast_nonneg _;have hk1 : (k : Int) < (m : Int) := by omega
   have HE := Hd he;clear hc hee he;simp only at hc0 hc1
   by_cases hg : goodE n (x, y) = true
   ·have hg' := hg;simp only [goodE, ndN, Bool.and_eq_true, decide_eq_true_eq] at hg';obtain ⟨⟨a1, a2⟩, a3, a4⟩ := hg';have b1 : ¬ x < 0 := by omega
    have b2 : ¬ y < 0 := by omega
    have b3 : ¬ (n : Int) ≤ x := by omega
    have b4 : ¬ (n : Int) ≤ y := by omega
    have HG := Hd hg;clear hg a1 a2 a3 a4;go_wp2
    go_roundw
    case rel => exact ⟨k + 1, by go_num, by omega, Hd (by rw [List.take_add_one, HE.out, List.all_append, hall.out]; simpa using HG.out), trivial⟩
    case measure => simp [intOf]; omega
   ·have hgf : goodE n (x, y) = false := by simpa using hg
    have hno : l.all (goodE n) = false := by
     rw [List.all_eq_false];exact ⟨_, List.mem_of_getElem? HE.out, hg⟩
    have hor : x < 0 ∨ (0 ≤ x ∧ y < 0) ∨ (0 ≤ x ∧ 0 ≤ y ∧ (n : Int) ≤ x) ∨ (0 ≤ x ∧ 0 ≤ y ∧ x < (n : Int) ∧ (n : Int) ≤ y) := by
     have hg2 := hg;simp only [goodE, ndN, Bool.and_eq_true, decide_eq_true_eq] at hg2;omega
    have HNO := Hd hno;clear hg hgf hno;rcases hor with b1 | ⟨b1, b2⟩ | ⟨b1, b2, b3⟩ | ⟨b1, b2, b3, b4⟩
    ·go_wp2
     go_ret
     exact ⟨by rw [HNO.out]; rfl, rfl⟩
    ·have b1' : ¬ x < 0 := by omega
     go_wp2
     go_ret
     exact ⟨by rw [HNO.out]; rfl, rfl⟩
    ·have b1' : ¬ x < 0 := by omega
     have b2' : ¬ y < 0 := by omega
     go_wp2
     go_ret
     exact ⟨by rw [HNO.out]; rfl, rfl⟩
    ·have b1' : ¬ x < 0 := by omega
     have b2' : ¬ y < 0 := by omega
     have b3' : ¬ (n : Int) ≤ x := by omega
     go_wp2
     go_ret
     exact ⟨by rw [HNO.out]; rfl, rfl⟩
  ·have hkm : k = m := by omega
   subst hkm;have h1 := hall.out;rw [List.take_of_length_le (by rw [HL.out]; exact Nat.le_refl _)] at h1;have H1 := Hd h1;clear h1;go_wp2
   go_ret
   exact ⟨by rw [H1.out]; rfl, rfl⟩
theorem rmay_out (n : Int) (A : Option Addr) (m c : Nat) (w : World) (hn : n < 0 ∨ 500 < n) :
  Calls Tryd.prog 9 #[.int .i64 n, .slice A m c] w fun e w' => e = .returned (.bool false) ∧ w = w' := by
 by_cases h0 : n < 0
 ·clear hn;go_enter Tryd.func9, Tryd.ntmps9;go_wp2
  go_ret
  exact ⟨rfl, rfl⟩
 ·have h1 : 500 < n := by omega
  clear hn;go_enter Tryd.func9, Tryd.ntmps9;go_wp2
  go_ret
  exact ⟨rfl, rfl⟩
end Go.Proofs.YtlnlppabeddclaaDoor
