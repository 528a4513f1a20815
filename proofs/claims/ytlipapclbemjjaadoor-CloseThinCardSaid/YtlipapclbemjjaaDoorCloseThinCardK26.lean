/- The document's own graph (ref 19): Edges, May. -/
import Derived.Test.YtlipapclbemjjaaDoorCloseThinCardK25
set_option linter.unusedVariables false
set_option linter.unusedSimpArgs false
namespace Go.Proofs.YtlipapclbemjjaaDoor
open Go.RowKit
attribute [local go_sem ↓] Go.wp_at_zero Go.wp_at_succ
def rrowE (N : Nat) (h : List (Int × Int)) (a : Nat) : List (Int × Int) := (nextL N h (a : Int)).map fun b => ((a : Int), b)
def redgesTo (N : Nat) (h : List (Int × Int)) (k : Nat) : List (Int × Int) := (List.range k).flatMap (rrowE N h)
theorem redgesTo_succ (N : Nat) (h : List (Int × Int)) (k : Nat) : redgesTo N h (k + 1) = redgesTo N h k ++ rrowE N h k := by
 unfold redgesTo
 rw [List.range_succ, List.flatMap_append]
 simp
theorem redgesTo_len (N : Nat) (h : List (Int × Int)) (k : Nat) : (redgesTo N h k).length ≤ N * k := by
 induction k with
 | zero => simp [redgesTo]
 | succ k ih =>
  rw [redgesTo_succ, List.length_append, Nat.mul_succ]
  have : (rrowE N h k).length ≤ N := by unfold rrowE; rw [List.length_map]; exact nextL_len N h k
  omega
set_option maxHeartbeats 4000000 in
theorem redges_any (p N : Nat) (A : Option Addr) (n c : Nat) (h : List (Int × Int)) (w : World) (h0 : w.cell? ⟨p, 0, none⟩ = some (.int .i64 N)) (h1 : w.cell? ⟨p, 1, none⟩ = some (.slice A n c)) (hl : h.length = n) (hr : Row w w.heap.size A (edgeC h)) (hnn : n ≤ 1000000) (hN : N ≤ 500) :
  Calls Tryd.prog 32 #[.pointer (some ⟨p, 0, none⟩)] w fun e w' => ∃ v, (e = .returned v ∧ w'.ownsRow w.heap.size 47 2 v (redgesTo N h N).length (edgeC (redgesTo N h N))) ∧ Only [] w w' := by
 obtain ⟨i0, hi, hz0, hz1, hz2⟩ := info_parts info_edge
 have hlt0 := World.block_lt_of_cell? w _ h0
 have HC0 := Lib.hid (fun (W : World) (hO : Only [] w W) => (hO.cell (p := ⟨p, 0, none⟩) hlt0 (by simp)).trans h0)
 have HNX := Lib.hid (fun (W : World) (a : Int) (hO : Only [] w W) => rnext_any p N A n c h a W ((hO.cell (p := ⟨p, 0, none⟩) hlt0 (by simp)).trans h0) ((hO.cell (p := ⟨p, 1, none⟩) hlt0 (by simp)).trans h1) hl (row_up (hr.only hO (by simp))) hnn hN)
 clear h0 h1 hr hl
 go_enter Tryd.func32, Tryd.ntmps32
 go_wp2_with fail
 go_loopw [3, 4] (fun v i wr => ∃ k : Nat, i = .int .i64 k ∧ k ≤ N ∧ Only [] w wr ∧ Hid (wr.ownsRow w.heap.size 47 2 v (redgesTo N h k).length (edgeC (redgesTo N h k)))) (fun _ i _ => N - (intOf i).toNat)
 case atStart => exact ⟨0, rfl, by omega, (Only.refl _ _).alloc _, Lib.hid (World.ownsRow_lit w #[] 0 (Nat.le_refl _) (by unfold maxLen; omega) rfl)⟩
 case round =>
  obtain ⟨k, rfl, hk, hO, HV⟩ := hrel
  have hc0 := HC0.out wr hO
  by_cases hlt : k < N
  ·have hk1 : (k : Int) < (N : Int) := by omega
   have hd1 : decide (k < N) = true := by simpa using hlt
   have hkl := redgesTo_len N h k
   have hkl2 : N * k ≤ 500 * 500 := Nat.mul_le_mul hN (by omega)
   have hsz := hO.size
   have hnx := HNX.out wr (k : Int) hO
   have hrl : rrowE N h k = (nextL N h (k : Int)).map fun b => ((k : Int), b) := rfl
   have hZN := nextL_len N h (k : Int)
   obtain ⟨Z, hZ⟩ : ∃ Z, Z = nextL N h (k : Int) := ⟨_, rfl⟩
   rw [← hZ] at hnx hrl hZN
   have HNX' := Lib.hid hnx
   clear hnx hZ
   obtain ⟨R, hRZ⟩ : ∃ R, R = Z.length := ⟨_, rfl⟩
   rw [← hRZ] at HNX' hZN
   have HRZ := Lib.hid hRZ
   have HRL := Lib.hid hrl
   clear hRZ hrl
   obtain ⟨M, hM⟩ : ∃ M, M = (redgesTo N h k).length := ⟨_, rfl⟩
   rw [← hM] at HV hkl
   go_wp2_with fail
   refine (HNX'.out).mono ?_
   rintro e wb ⟨v2, ⟨rfl, hv2⟩, hOb⟩
   obtain ⟨B, cb, rfl, hb1, hb2, -, hrow⟩ := own_row hv2
   have hVb := own_only HV.out hOb (fun _ _ => by simp)
   have HVB := Lib.hid hVb
   have HV2 := Lib.hid (own_mono0 hv2)
   clear hv2 hrow hVb
   go_wp2_with fail
   go_loopw [3, 6] (fun v i wr => ∃ j : Nat, i = .int .i64 j ∧ j ≤ R ∧ Only [] w wr ∧ Hid (wr.ownsRow w.heap.size 47 2 v (M + j) (edgeC (redgesTo N h k ++ (rrowE N h k).take j))) ∧
     Hid (wr.ownsRow 0 3 1 (.slice B R cb) R (Z.map (Value.int .i64)))) (fun _ i _ => R - (intOf i).toNat)
   case atStart => exact ⟨0, rfl, by omega, hO.trans hOb, by simpa using HVB, HV2⟩
   case round =>
    obtain ⟨j, rfl, hj, hOj, HVj, HIj⟩ := hrel
    by_cases hjl : j < R
    ·obtain ⟨B', cb', hcb, -, -, -, hrow⟩ := own_row HIj.out
     simp only [Value.slice.injEq, true_and] at hcb
     obtain ⟨rfl, rfl⟩ := hcb
     obtain ⟨b, off, rfl, hbB, hbw, hcell⟩ := hrow.open_ (k := j) (by rw [List.length_map, ← HRZ.out]; exact hjl)
     obtain ⟨z, hz⟩ : ∃ z, Z[j]? = some z := ⟨_, List.getElem?_eq_getElem (by rw [← HRZ.out]; exact hjl)⟩
     have hcz := hcell j (.int .i64 z) (by rw [List.getElem?_map, hz]; rfl)
     have HZ := Lib.hid hz
     have hj0 : (0 : Int) ≤ (j : Int) := Int.natCast_nonneg _
     have hj1 : (j : Int) < (R : Int) := by omega
     have hwlt : w.heap.size ≤ wr.heap.size := hOj.size
     clear hcell hrow hz
     go_wp2_with (
      at_builtin
      refine wpList_append_row _ rfl (.tmp 25) (.tmp 32) 22 rfl w.heap.size 47 i0 _ 2 16 Tryd.underlying22 hi hz0 hz1 hz2 rfl (by omega) _ (M + j) (edgeC (redgesTo N h k ++ (rrowE N h k).take j)) (by rfl) (own_only HVj.out ((Only.refl [] wr).alloc (.cells #[.int .i64 (k : Int), .int .i64 z] 47)) (fun _ _ => by simp)) _ _ 1 1 [.int .i64 (k : Int), .int .i64 z] (by rfl) (by simp) (row_lit _ _ _) (by intro u hu; simp at hu; rcases hu with rfl | rfl <;> rfl) (by unfold maxLen; omega) (by omega) (by rw [World.size_alloc]; omega) ?_
      intro v' w3 hown hgrow hat
      have OA := (Only.refl [] wr).alloc (.cells #[.int .i64 (k : Int), .int .i64 z] 47)
      have OV := only_grown hgrow
      have HOWN := Lib.hid hown
      clear hown)
     go_roundw
     case rel =>
      have hra := own_only HVj.out OA (fun _ _ => by simp)
      refine ⟨j + 1, by go_num, by omega, (hOj.trans OA).step OV (fun i hi hl => by have := (hra.lt i (by simpa using hi)).1; omega), ?_, ?_⟩
      ·have : redgesTo N h k ++ (rrowE N h k).take (j + 1) = (redgesTo N h k ++ (rrowE N h k).take j) ++ [((k : Int), z)] := by
        rw [List.take_add_one, List.append_assoc, HRL.out, List.getElem?_map, HZ.out]
        rfl
       rw [this, edgeC_append]
       exact Lib.hid HOWN.out
      ·have hia := own_only HIj.out OA (fun _ _ => by simp)
       exact Lib.hid (own_only hia OV (own_own hia hra (by decide)))
     case measure => simp [intOf]; omega
    ·have hjN : j = R := by omega
     subst hjN
     have hj1 : ¬ (j : Int) < (j : Int) := by omega
     go_wp2
     go_roundw
     case rel =>
      refine ⟨k + 1, by go_num, by omega, hOj, ?_⟩
      have h1 := HVj.out
      rw [List.take_of_length_le (by rw [HRL.out, List.length_map, ← HRZ.out]; exact Nat.le_refl _), ← redgesTo_succ] at h1
      rw [show (redgesTo N h (k + 1)).length = M + j by rw [redgesTo_succ, List.length_append, ← hM, HRL.out, List.length_map, ← HRZ.out]]
      exact Lib.hid h1
     case measure => simp [intOf]; omega
  ·have hkn : k = N := by omega
   subst hkn
   have hk1 : ¬ (k : Int) < (k : Int) := by omega
   go_wp2
   go_ret
   exact ⟨⟨_, rfl, HV.out⟩, hO⟩
def mayL (n : Int) (l : List (Int × Int)) : Bool := decide (0 ≤ n ∧ n ≤ 500) && l.all (goodE n.toNat)
set_option maxHeartbeats 1000000 in
theorem rmay_in (n : Nat) (A : Option Addr) (m c : Nat) (l : List (Int × Int)) (w : World) (hn : n ≤ 500) (hr : Row w w.heap.size A (edgeC l)) (hl : l.length = m) (hm : m ≤ 1000000) :
  Calls Tryd.prog 25 #[.int .i64 (n : Int), .slice A m c] w fun e w' => e = .returned (.bool (l.all (goodE n))) ∧ w = w' := by
 have HR := Lib.hid hr
 have HL := Lib.hid hl
 clear hr hl
 have hd1 : ¬ (n : Int) < 0 := by omega
 have hd2 : ¬ (500 : Int) < (n : Int) := by omega
 have hd3 : decide (500 < n) = false := by simp; omega
 go_enter Tryd.func25, Tryd.ntmps25
 go_wp2_with fail
 go_loopw [5] (fun i wr => ∃ k : Nat, i = .int .i64 k ∧ k ≤ m ∧ Hid ((l.take k).all (goodE n) = true) ∧ wr = w) (fun i _ => m - (intOf i).toNat)
 case atStart => exact ⟨0, rfl, by omega, Lib.hid (by simp), rfl⟩
 case round =>
  obtain ⟨k, rfl, hk, hall, rfl⟩ := hrel
  by_cases hlt : k < m
  ·obtain ⟨bb, off, rfl, -, hbw, hc⟩ := HR.out.open_ (k := k * 2) (by rw [edgeC_len, HL.out]; omega)
   obtain ⟨e, he⟩ : ∃ e, l[k]? = some e := ⟨_, List.getElem?_eq_getElem (by rw [HL.out]; exact hlt)⟩
   obtain ⟨x, y⟩ := e
   have hee := edgeC_get l k _ he
   have hc0 := hc _ _ hee.1
   have hc1 := hc _ _ hee.2
   rw [← Nat.add_assoc] at hc1
   have hk0 : (0 : Int) ≤ (k : Int) := Int.natCast_nonneg _
   have hk1 : (k : Int) < (m : Int) := by omega
   have HE := Lib.hid he
   clear hc hee he
   simp only at hc0 hc1
   by_cases hg : goodE n (x, y) = true
   ·have hg' := hg
    simp only [goodE, ndN, Bool.and_eq_true, decide_eq_true_eq] at hg'
    obtain ⟨⟨a1, a2⟩, a3, a4⟩ := hg'
    have b1 : ¬ x < 0 := by omega
    have b2 : ¬ y < 0 := by omega
    have b3 : ¬ (n : Int) ≤ x := by omega
    have b4 : ¬ (n : Int) ≤ y := by omega
    have HG := Lib.hid hg
    clear hg a1 a2 a3 a4
    go_wp2
    go_roundw
    case rel => exact ⟨k + 1, by go_num, by omega, Lib.hid (by rw [List.take_add_one, HE.out, List.all_append, hall.out]; simpa using HG.out), trivial⟩
    case measure => simp [intOf]; omega
   ·have hgf : goodE n (x, y) = false := by simpa using hg
    have hno : l.all (goodE n) = false := by
     rw [List.all_eq_false]
     exact ⟨_, List.mem_of_getElem? HE.out, hg⟩
    have hor : x < 0 ∨ (0 ≤ x ∧ y < 0) ∨ (0 ≤ x ∧ 0 ≤ y ∧ (n : Int) ≤ x) ∨ (0 ≤ x ∧ 0 ≤ y ∧ x < (n : Int) ∧ (n : Int) ≤ y) := by
     have hg2 := hg
     simp only [goodE, ndN, Bool.and_eq_true, decide_eq_true_eq] at hg2
     omega
    have HNO := Lib.hid hno
    clear hg hgf hno
    rcases hor with b1 | ⟨b1, b2⟩ | ⟨b1, b2, b3⟩ | ⟨b1, b2, b3, b4⟩
    ·go_wp2
     go_ret
     exact ⟨by rw [HNO.out]; rfl, rfl⟩
    ·have b1' : ¬ x < 0 := by omega
     go_wp2
     go_ret
     exact ⟨by rw [HNO.out]; rfl, rfl⟩
    ·have b1' : ¬ x < 0 := by omega
     have b2' : ¬ y < 0 := by omega
     go_wp2
     go_ret
     exact ⟨by rw [HNO.out]; rfl, rfl⟩
    ·have b1' : ¬ x < 0 := by omega
     have b2' : ¬ y < 0 := by omega
     have b3' : ¬ (n : Int) ≤ x := by omega
     go_wp2
     go_ret
     exact ⟨by rw [HNO.out]; rfl, rfl⟩
  ·have hkm : k = m := by omega
   subst hkm
   have h1 := hall.out
   rw [List.take_of_length_le (by rw [HL.out]; exact Nat.le_refl _)] at h1
   have H1 := Lib.hid h1
   clear h1
   go_wp2
   go_ret
   exact ⟨by rw [H1.out]; rfl, rfl⟩
set_option maxHeartbeats 400000 in
theorem rmay_out (n : Int) (A : Option Addr) (m c : Nat) (w : World) (hn : n < 0 ∨ 500 < n) :
  Calls Tryd.prog 25 #[.int .i64 n, .slice A m c] w fun e w' => e = .returned (.bool false) ∧ w = w' := by
 by_cases h0 : n < 0
 ·clear hn
  go_enter Tryd.func25, Tryd.ntmps25
  go_wp2
  go_ret
  exact ⟨rfl, rfl⟩
 ·have h1 : 500 < n := by omega
  clear hn
  go_enter Tryd.func25, Tryd.ntmps25
  go_wp2
  go_ret
  exact ⟨rfl, rfl⟩
end Go.Proofs.YtlipapclbemjjaaDoor
