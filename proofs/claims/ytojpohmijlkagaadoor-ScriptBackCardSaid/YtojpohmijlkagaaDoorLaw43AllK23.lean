/- Parts. -/
import Derived.Test.YtojpohmijlkagaaDoorLaw43AllK22
set_option maxRecDepth 10000
set_option maxHeartbeats 16000000
set_option linter.unusedVariables false
set_option linter.unusedSimpArgs false
namespace Go.Proofs.YtojpohmijlkagaaDoor
open Go.RowKit
open Go.Lib hiding intOf
attribute [local go_sem ↓] Go.wp_at_zero Go.wp_at_succ
theorem info_cline : (Tryd.prog.info? 40).map (fun i => (i.zero, i.size, i.bytes)) = some (some (.agg #[.int .i64 0, .int .i64 0, .int .i64 0]), 3, 24) := by kernel_rfl
theorem cmdC_get : ∀ {l : List Cmd} {k : Nat} {x : Cmd}, l[k]? = some x → (cmdC l)[k * 3]? = some (.int .i64 x.row) ∧ (cmdC l)[k * 3 + 1]? = some (.int .i64 x.kind) ∧ (cmdC l)[k * 3 + 2]? = some (.int .i64 x.n)
 | [], _, _, h => by simp at h
 | y :: l, 0, x, h => by
  simp at h;subst h;exact ⟨rfl, rfl, rfl⟩
 | y :: l, k + 1, x, h => by
  have ih := cmdC_get (l := l) (k := k) (by simpa using h);have e : cmdC (y :: l) = y.c ++ cmdC l := rfl;have hl : y.c.length = 3 := rfl;rw [e, List.getElem?_append_right (by omega), List.getElem?_append_right (by omega), List.getElem?_append_right (by omega), hl, show (k + 1) * 3 - 3 = k * 3 by omega, show (k + 1) * 3 + 1 - 3 = k * 3 + 1 by omega, show (k + 1) * 3 + 2 - 3 = k * 3 + 2 by omega];exact ih
theorem row_cmd {w : World} {B : Nat} {A : Option Addr} {l : List Cmd} (h : Row w B A (cmdC l)) {k : Nat} {x : Cmd} (hk : l[k]? = some x) :
  ∃ b off, A = some ⟨b, off, none⟩ ∧ b < B ∧ b < w.heap.size ∧ w.cell? ⟨b, off + k * 3, none⟩ = some (.int .i64 x.row) ∧ w.cell? ⟨b, off + k * 3 + 1, none⟩ = some (.int .i64 x.kind) ∧ w.cell? ⟨b, off + k * 3 + 2, none⟩ = some (.int .i64 x.n) := by
 have hlt := (List.getElem?_eq_some_iff.1 hk).1;obtain ⟨b, off, rfl, h1, h2, hc⟩ := h.open_ (k := k * 3) (by rw [cmdC_len]; omega);obtain ⟨g0, g1, g2⟩ := cmdC_get hk;refine ⟨b, off, rfl, h1, h2, hc _ _ g0, ?_, ?_⟩
 ·rw [Nat.add_assoc]; exact hc _ _ g1
 ·rw [Nat.add_assoc]; exact hc _ _ g2
theorem settings_any (A : Option Addr) (n c B : Nat) (l : List Cmd) (w : World) (hg : Row w B A (cmdC l)) (hn : l.length = n) (hM : n ≤ 1000) :
  Calls Tryd.prog 17 #[.slice A n c] w fun e w' => ∃ V, (e = .returned V ∧ w'.ownsRow w.heap.size 40 3 V (l.filter setC).length (cmdC (l.filter setC))) ∧ Only [] w w' := by
 obtain ⟨i0, hi, hz0, hz1, hz2⟩ := info_parts info_cline;have HG := Hd hg;have HN := Hd hn;clear hg hn;go_enter Tryd.func17, Tryd.ntmps17;go_wp2_with fail
 go_loopw [3, 8] (fun V iv wr => ∃ k : Nat, iv = .int .i64 k ∧ k ≤ n ∧ Hid (wr.ownsRow w.heap.size 40 3 V ((l.take k).filter setC).length (cmdC ((l.take k).filter setC))) ∧ Hid (Only [] w wr)) (fun _ iv _ => n - (intOf iv).toNat)
 case atStart => exact ⟨0, rfl, by omega, Hd (World.ownsRow_nil _ _ _ _), Hd (Only.refl _ _)⟩
 case round =>
  obtain ⟨k, rfl, hk, hV, hO⟩ := hrel;have hsz := hO.out.size
  by_cases hlt : k < n
  ·obtain ⟨⟨xr, xk, xn⟩, hx⟩ : ∃ x, l[k]? = some x := ⟨_, List.getElem?_eq_getElem (by rw [HN.out]; exact hlt)⟩;obtain ⟨b, off, rfl, -, hbw, a0, a1, a2⟩ := row_cmd (HG.out.only hO.out (by simp)) hx;dsimp only at a0 a1 a2;have HTK : Hid (l.take (k + 1) = l.take k ++ [⟨xr, xk, xn⟩]) := Hd (by rw [List.take_add_one, hx]; rfl);have h01 : (k : Int) < (n : Int) := by omega
   have hk0 : (0 : Int) ≤ (k : Int) := Int.natCast_nonneg _;have hwk : IntKind.i64.wrap ((k : Int) + 1) = (k : Int) + 1 := IntWalk.i64_in _ (by omega);have hfl : ((l.take k).filter setC).length ≤ 1000 := by
    have h1 := List.length_filter_le setC (l.take k);rw [List.length_take] at h1;omega
   clear hx;go_upto_region 5 with (fail)
   have HB := Hd (Blk.made wr 40 #[.int .i64 xr, .int .i64 xk, .int .i64 xn]);have O2 : Only [] wr (wr.alloc (.cells #[.int .i64 xr, .int .i64 xk, .int .i64 xn] 40)) := (Only.refl [] wr).alloc _;have HV2 := Hd (own_only hV.out O2 (by simp));have HO2 := Hd (hO.out.trans O2);clear O2 a0 a1 a2 hV hO;generalize (wr.alloc (.cells #[.int .i64 xr, .int .i64 xk, .int .i64 xn] 40)) = w2 at *;generalize wr.heap.size = gc at *;have lB := HB.out.lt;have x0 := HB.out.at_ 0;have x1 := HB.out.at_ 1;have x2 := HB.out.at_ 2;simp at x0 x1 x2;have hsz2 := HO2.out.size
   by_cases h1 : 1 ≤ xk
   ·have d1 : decide (1 ≤ xk) = true := decide_eq_true h1
    by_cases h2 : xk ≤ 3
    ·have d2 : decide (xk ≤ 3) = true := decide_eq_true h2;have HF : Hid ((l.take (k + 1)).filter setC = (l.take k).filter setC ++ [⟨xr, xk, xn⟩]) := Hd (by
      rw [HTK.out, List.filter_append]
      congr 1
      have : setC ⟨xr, xk, xn⟩ = true := decide_eq_true ⟨h1, h2⟩;simp [this])
     clear h1 h2;generalize (l.take k).filter setC = acc at *;go_wp2_with (
      at_builtin
      refine wpList_append_row _ rfl (.tmp 20) (.tmp 22) _ rfl w.heap.size 40 i0 _ 3 24 Tryd.underlying23 hi hz0 hz1 hz2 rfl (by omega) _ acc.length (cmdC acc) (by rfl) (own_only HV2.out ((Only.refl [] w2).alloc _) (by simp)) (w2.heap.size + 1) (some ⟨w2.heap.size, 0, none⟩) 1 1 [.int .i64 xr, .int .i64 xk, .int .i64 xn] (by rfl) (by rfl) (row_lit w2 40 #[.int .i64 xr, .int .i64 xk, .int .i64 xn]) (by intro u hu; simp at hu; rcases hu with rfl | rfl | rfl <;> rfl) (by unfold maxLen; omega) (by omega) (by simp; omega) ?_;intro v4 w4 hown4 hgrow4 hat4;have HV4 := Hd hown4;have HO4 := Hd ((HO2.out.alloc (.cells #[.int .i64 xr, .int .i64 xk, .int .i64 xn] 40)).step (only_grown hgrow4) (fun i hi hl => by have := (HV2.out.lt i (by simpa using hi)).1; omega));clear hown4 hgrow4 hat4)
     have HV5 : Hid (w4.ownsRow w.heap.size 40 3 v4 ((l.take (k + 1)).filter setC).length (cmdC ((l.take (k + 1)).filter setC))) := Hd (by
      rw [HF.out, cmdC_snoc, List.length_append];exact HV4.out)
     clear HV4 HV2;go_wp2
     go_roundw
     case rel => exact ⟨k + 1, by go_num, by omega, HV5, HO4⟩
     case measure => simp [intOf]; omega
    ·have d2 : decide (xk ≤ 3) = false := decide_eq_false h2;have HF : Hid ((l.take (k + 1)).filter setC = (l.take k).filter setC) := Hd (by
      rw [HTK.out, List.filter_append];have : setC ⟨xr, xk, xn⟩ = false := decide_eq_false (fun e => h2 e.2);simp [this])
     clear h1 h2;rw [← HF.out] at HV2;go_wp2
     go_roundw
     case rel => exact ⟨k + 1, by go_num, by omega, HV2, HO2⟩
     case measure => simp [intOf]; omega
   ·have d1 : decide (1 ≤ xk) = false := decide_eq_false h1;have HF : Hid ((l.take (k + 1)).filter setC = (l.take k).filter setC) := Hd (by
     rw [HTK.out, List.filter_append];have : setC ⟨xr, xk, xn⟩ = false := decide_eq_false (fun e => h1 e.1);simp [this])
    clear h1;rw [← HF.out] at HV2;go_wp2
    go_roundw
    case rel => exact ⟨k + 1, by go_num, by omega, HV2, HO2⟩
    case measure => simp [intOf]; omega
  ·have hkn : k = n := by omega
   subst hkn;have hd : decide ((k : Int) < (k : Int)) = false := by simp
   have hv := hV.out;rw [List.take_of_length_le (by rw [HN.out]; exact Nat.le_refl _)] at hv;have HV := Hd hv;clear hV hv;go_wp2
   go_ret
   first | exact ⟨_, ⟨rfl, HV.out⟩, hO.out⟩ | exact ⟨⟨_, rfl, HV.out⟩, hO.out⟩
end Go.Proofs.YtojpohmijlkagaaDoor
