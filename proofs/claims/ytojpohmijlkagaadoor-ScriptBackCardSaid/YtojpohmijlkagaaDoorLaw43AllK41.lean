/- Parts. -/
import Derived.Test.YtojpohmijlkagaaDoorLaw43AllK32
set_option maxRecDepth 10000
set_option maxHeartbeats 16000000
set_option linter.unusedVariables false
set_option linter.unusedSimpArgs false
namespace Go.Proofs.YtojpohmijlkagaaDoor
open Go.RowKit
open Go.Lib hiding intOf
attribute [local go_sem ↓] Go.wp_at_zero Go.wp_at_succ
theorem same43_eq (A A' : Option Addr) (n c d : Nat) (l : List Cmd) (w : World) (B B' : Nat) (hA : Row w B A (cmdC l)) (hA' : Row w B' A' (cmdC l)) (hn : l.length = n) (hnm : n ≤ 1000000) :
  Calls Tryd.prog 9 #[.slice A n c, .slice A' n d] w fun e w' => e = .returned (.bool true) ∧ ∃ k, w.drewN k = w' := by
 have HA := Hd hA;have HA' := Hd hA';have HN := Hd hn;clear hA hA' hn;go_enter Tryd.func9, Tryd.ntmps9;go_wp2_with fail
 go_loopw [5] (fun i wr => ∃ k q : Nat, i = .int .i64 k ∧ k ≤ n ∧ Hid (wr = w.drewN q)) (fun i _ => n - (intOf i).toNat)
 case atStart => exact ⟨0, 0, rfl, by omega, rfl⟩
 case round =>
  obtain ⟨k, q, rfl, hk, hw⟩ := hrel
  by_cases hlt : k < n
  ·obtain ⟨⟨xr, xk, xn⟩, hx⟩ : ∃ x, l[k]? = some x := ⟨_, List.getElem?_eq_getElem (by rw [HN.out]; exact hlt)⟩;obtain ⟨b, off, rfl, -, hbw, a0, a1, a2⟩ := row_cmd (show Row wr B A (cmdC l) by rw [hw.out]; exact HA.out.only ((Only.refl [] w).drewN q) (by simp)) hx;obtain ⟨b', off', rfl, -, hbw', d0, d1, d2⟩ := row_cmd (show Row wr B' A' (cmdC l) by rw [hw.out]; exact HA'.out.only ((Only.refl [] w).drewN q) (by simp)) hx;dsimp only at a0 a1 a2 d0 d1 d2;have hk0 : (0 : Int) ≤ (k : Int) := Int.natCast_nonneg _;have hk1 : (k : Int) < (n : Int) := by omega
   have hwk : IntKind.i64.wrap ((k : Int) + 1) = (k : Int) + 1 := IntWalk.i64_in _ (by omega);clear hx;go_wp2_with fail
   go_quiet (fail)
   go_wp2
   go_roundw
   case rel =>
    refine ⟨k + 1, q + nq, by go_num, by omega, ?_⟩
    show _ = _
    rw [hw.out, World.drewN_drewN]
   case measure => simp [intOf]; omega
  ·have hkn : k = n := by omega
   subst hkn;have hd : decide ((k : Int) < (k : Int)) = false := by simp
   go_wp2
   go_ret
   exact ⟨rfl, q, hw.out.symm⟩
theorem rsettings43_any (A : Option Addr) (n c B : Nat) (l : List Cmd) (w : World) (hg : Row w B A (cmdC l)) (hn : l.length = n) (hM : n ≤ 1000) :
  Calls Tryd.prog 18 #[.slice A n c] w fun e w' => ∃ V, (e = .returned V ∧ w'.ownsRow w.heap.size 42 3 V (l.filter setC).length (cmdC (l.filter setC))) ∧ Only [] w w' := by
 obtain ⟨i0, hi, hz0, hz1, hz2⟩ := info_parts info_rline43;have HG := Hd hg;have HN := Hd hn;have HV0 : Hid ((w.alloc (.cells #[] 42)).ownsRow w.heap.size 42 3 (.slice (some ⟨w.heap.size, 0, none⟩) 0 0) ((l.take 0).filter setC).length (cmdC ((l.take 0).filter setC))) := Hd (World.ownsRow_lit w (e := 42) (size := 3) #[] 0 (Nat.le_refl _) (by unfold maxLen; omega) rfl);have HO0 := Hd ((Only.refl [] w).alloc (.cells #[] 42));clear hg hn;go_enter Tryd.func18, Tryd.ntmps18;go_wp2_with fail
 go_loopw [3, 4] (fun V iv wr => ∃ k : Nat, iv = .int .i64 k ∧ k ≤ n ∧ Hid (wr.ownsRow w.heap.size 42 3 V ((l.take k).filter setC).length (cmdC ((l.take k).filter setC))) ∧ Hid (Only [] w wr)) (fun _ iv _ => n - (intOf iv).toNat)
 case atStart => exact ⟨0, rfl, by omega, HV0, HO0⟩
 case round =>
  obtain ⟨k, rfl, hk, hV, hO⟩ := hrel;have hsz := hO.out.size
  by_cases hlt : k < n
  ·obtain ⟨⟨xr, xk, xn⟩, hx⟩ : ∃ x, l[k]? = some x := ⟨_, List.getElem?_eq_getElem (by rw [HN.out]; exact hlt)⟩;obtain ⟨b, off, rfl, -, hbw, a0, a1, a2⟩ := row_cmd (HG.out.only hO.out (by simp)) hx;dsimp only at a0 a1 a2;have HTK : Hid (l.take (k + 1) = l.take k ++ [⟨xr, xk, xn⟩]) := Hd (by rw [List.take_add_one, hx]; rfl);have h01 : (k : Int) < (n : Int) := by omega
   have hk0 : (0 : Int) ≤ (k : Int) := Int.natCast_nonneg _;have hwk : IntKind.i64.wrap ((k : Int) + 1) = (k : Int) + 1 := IntWalk.i64_in _ (by omega);have hfl : ((l.take k).filter setC).length ≤ 1000 := by
    have h1 := List.length_filter_le setC (l.take k);rw [List.length_take] at h1;omega
   clear hx
   by_cases h1 : 1 ≤ xk
   ·have d1 : decide (1 ≤ xk) = true := decide_eq_true h1
    by_cases h2 : xk ≤ 3
    ·have d2 : decide (xk ≤ 3) = true := decide_eq_true h2;have HF : Hid ((l.take (k + 1)).filter setC = (l.take k).filter setC ++ [⟨xr, xk, xn⟩]) := Hd (by
      rw [HTK.out, List.filter_append]
      congr 1
      have : setC ⟨xr, xk, xn⟩ = true := decide_eq_true ⟨h1, h2⟩;simp [this])
     clear h1 h2;generalize (l.take k).filter setC = acc at *;go_wp2_with (
      at_builtin
      refine wpList_append_row _ rfl (.tmp 26) (.tmp 31) _ rfl w.heap.size 42 i0 _ 3 24 Tryd.underlying27 hi hz0 hz1 hz2 rfl (by omega) _ acc.length (cmdC acc) (by rfl) (own_only hV.out ((Only.refl [] wr).alloc _) (by simp)) (wr.heap.size + 1) (some ⟨wr.heap.size, 0, none⟩) 1 1 [.int .i64 xr, .int .i64 xk, .int .i64 xn] (by rfl) (by rfl) (row_lit wr 42 #[.int .i64 xr, .int .i64 xk, .int .i64 xn]) (by intro u hu; simp at hu; rcases hu with rfl | rfl | rfl <;> rfl) (by unfold maxLen; omega) (by omega) (by simp; omega) ?_;intro v4 w4 hown4 hgrow4 hat4;have HV4 := Hd hown4;have HO4 := Hd ((hO.out.alloc (.cells #[.int .i64 xr, .int .i64 xk, .int .i64 xn] 42)).step (only_grown hgrow4) (fun i hi hl => by have := (hV.out.lt i (by simpa using hi)).1; omega));clear hown4 hgrow4 hat4)
     have HV5 : Hid (w4.ownsRow w.heap.size 42 3 v4 ((l.take (k + 1)).filter setC).length (cmdC ((l.take (k + 1)).filter setC))) := Hd (by
      rw [HF.out, cmdC_snoc, List.length_append];exact HV4.out)
     clear HV4 hV;go_wp2
     go_roundw
     case rel => exact ⟨k + 1, by go_num, by omega, HV5, HO4⟩
     case measure => simp [intOf]; omega
    ·have d2 : decide (xk ≤ 3) = false := decide_eq_false h2;have HF : Hid ((l.take (k + 1)).filter setC = (l.take k).filter setC) := Hd (by
      rw [HTK.out, List.filter_append];have : setC ⟨xr, xk, xn⟩ = false := decide_eq_false (fun e => h2 e.2);simp [this])
     clear h1 h2;rw [← HF.out] at hV;go_wp2
     go_roundw
     case rel => exact ⟨k + 1, by go_num, by omega, hV, hO⟩
     case measure => simp [intOf]; omega
   ·have d1 : decide (1 ≤ xk) = false := decide_eq_false h1;have HF : Hid ((l.take (k + 1)).filter setC = (l.take k).filter setC) := Hd (by
     rw [HTK.out, List.filter_append];have : setC ⟨xr, xk, xn⟩ = false := decide_eq_false (fun e => h1 e.1);simp [this])
    clear h1;rw [← HF.out] at hV;go_wp2
    go_roundw
    case rel => exact ⟨k + 1, by go_num, by omega, hV, hO⟩
    case measure => simp [intOf]; omega
  ·have hkn : k = n := by omega
   subst hkn;have hd : decide ((k : Int) < (k : Int)) = false := by simp
   have hv := hV.out;rw [List.take_of_length_le (by rw [HN.out]; exact Nat.le_refl _)] at hv;have HV := Hd hv;clear hV hv;go_wp2
   go_ret
   first | exact ⟨_, ⟨rfl, HV.out⟩, hO.out⟩ | exact ⟨⟨_, rfl, HV.out⟩, hO.out⟩
end Go.Proofs.YtojpohmijlkagaaDoor
