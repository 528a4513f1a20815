/- Parts. -/
import Derived.Test.YtojpohmijlkagaaDoorLaw43AllK23
import Derived.Test.YtojpohmijlkagaaDoorLaw43AllK31
import Derived.Test.YtojpohmijlkagaaDoorLaw43AllK25
set_option maxRecDepth 10000
set_option maxHeartbeats 16000000
set_option linter.unusedVariables false
set_option linter.unusedSimpArgs false
namespace Go.Proofs.YtojpohmijlkagaaDoor
open Go.RowKit
open Go.Lib hiding intOf
attribute [local go_sem ↓] Go.wp_at_zero Go.wp_at_succ
theorem info_rline43 : (Tryd.prog.info? 42).map (fun i => (i.zero, i.size, i.bytes)) = some (some (.agg #[.int .i64 0, .int .i64 0, .int .i64 0]), 3, 24) := by kernel_rfl
theorem cmdC_take {l : List Cmd} {k : Nat} {x : Cmd} (h : l[k]? = some x) : cmdC (l.take (k + 1)) = cmdC (l.take k) ++ [.int .i64 x.row, .int .i64 x.kind, .int .i64 x.n] := by
 rw [List.take_add_one, h];exact cmdC_snoc _ _
set_option maxRecDepth 100000 in
theorem back43_any (A : Option Addr) (n c B : Nat) (l : List Cmd) (w : World) (hg : Row w B A (cmdC l)) (hn : l.length = n) (hM : n ≤ 1000) :
  Calls Tryd.prog 10 #[.slice A n c] w fun e w' => ∃ V, (e = .returned V ∧ w'.ownsRow w.heap.size 42 3 V n (cmdC l)) ∧ Only [] w w' := by
 obtain ⟨i0, hi, hz0, hz1, hz2⟩ := info_parts info_rline43;have HG := Hd hg;have HN := Hd hn;have HV0 : Hid ((w.alloc (.cells #[] 42)).ownsRow w.heap.size 42 3 (.slice (some ⟨w.heap.size, 0, none⟩) 0 0) 0 (cmdC (l.take 0))) := Hd (World.ownsRow_lit w (e := 42) (size := 3) #[] 0 (Nat.le_refl _) (by unfold maxLen; omega) rfl);have HO0 := Hd ((Only.refl [] w).alloc (.cells #[] 42));clear hg hn;go_enter Tryd.func10, Tryd.ntmps10;go_wp2_with fail
 go_loopw [3, 4] (fun V iv wr => ∃ k : Nat, iv = .int .i64 k ∧ k ≤ n ∧ Hid (wr.ownsRow w.heap.size 42 3 V k (cmdC (l.take k))) ∧ Hid (Only [] w wr)) (fun _ iv _ => n - (intOf iv).toNat)
 case atStart => exact ⟨0, rfl, by omega, HV0, HO0⟩
 case round =>
  obtain ⟨k, rfl, hk, hV, hO⟩ := hrel;have hsz := hO.out.size;obtain ⟨A3, c3, rfl, -, -, -, -⟩ := own_row hV.out
  by_cases hlt : k < n
  ·obtain ⟨⟨xr, xk, xn⟩, hx⟩ : ∃ x, l[k]? = some x := ⟨_, List.getElem?_eq_getElem (by rw [HN.out]; exact hlt)⟩;obtain ⟨b, off, rfl, -, hbw, a0, a1, a2⟩ := row_cmd (HG.out.only hO.out (by simp)) hx;dsimp only at a0 a1 a2;have HTK := Hd (cmdC_take hx);have HA0 := Hd a0;have HA1 := Hd a1;have HA2 := Hd a2;have h01 : (k : Int) < (n : Int) := by omega
   have hk0 : (0 : Int) ≤ (k : Int) := Int.natCast_nonneg _;have hwk : IntKind.i64.wrap ((k : Int) + 1) = (k : Int) + 1 := IntWalk.i64_in _ (by omega);clear hx a0 a1 a2;go_upto_region 5 with (fail)
   refine rg1 [18] [] wr ?_;have OW : Only [] wr wr.drew := (Only.refl [] wr).drew;generalize wr.drew = wz at *;refine tQ 0 (h := tQ 1 (h := tQ 2 (h := tQ 3 (h := tQ 4 (h := ?_)))));refine timed_readD (i := 5) (v := ?_) 0 rfl (by kernel_rfl) (by kernel_rfl) (by kernel_rfl) (fun _ _ _ h => h) (by kernel_rfl) (by kernel_rfl) rfl (by kernel_rfl) ?_ ?_;rotate_left
   ·(intro wq hSw; have y0 := (hSw.cell (p := ⟨b, off + k * 3, none⟩) hbw (by simp)).trans HA0.out; have y1 := (hSw.cell (p := ⟨b, off + k * 3 + 1, none⟩) hbw (by simp)).trans HA1.out; have y2 := (hSw.cell (p := ⟨b, off + k * 3 + 2, none⟩) hbw (by simp)).trans HA2.out; clear hSw; go_simp; try with_reducible rfl)
   (try simp only [tdz]);refine tQ 6 (h := tQ 7 (h := tQ 8 (h := tQ 9 (h := ?_))));refine timed_readD (i := 10) (v := ?_) 0 rfl (by kernel_rfl) (by kernel_rfl) (by kernel_rfl) (fun _ _ _ h => h) (by kernel_rfl) (by kernel_rfl) rfl (by kernel_rfl) ?_ ?_;rotate_left
   ·(intro wq hSw; have y0 := (hSw.cell (p := ⟨b, off + k * 3, none⟩) hbw (by simp)).trans HA0.out; have y1 := (hSw.cell (p := ⟨b, off + k * 3 + 1, none⟩) hbw (by simp)).trans HA1.out; have y2 := (hSw.cell (p := ⟨b, off + k * 3 + 2, none⟩) hbw (by simp)).trans HA2.out; clear hSw; go_simp; try with_reducible rfl)
   (try simp only [tdz]);refine tQ 11 (h := tQ 12 (h := tQ 13 (h := tQ 14 (h := ?_))));refine timed_readD (i := 15) (v := ?_) 0 rfl (by kernel_rfl) (by kernel_rfl) (by kernel_rfl) (fun _ _ _ h => h) (by kernel_rfl) (by kernel_rfl) rfl (by kernel_rfl) ?_ ?_;rotate_left
   ·(intro wq hSw; have y0 := (hSw.cell (p := ⟨b, off + k * 3, none⟩) hbw (by simp)).trans HA0.out; have y1 := (hSw.cell (p := ⟨b, off + k * 3 + 1, none⟩) hbw (by simp)).trans HA1.out; have y2 := (hSw.cell (p := ⟨b, off + k * 3 + 2, none⟩) hbw (by simp)).trans HA2.out; clear hSw; go_simp; try with_reducible rfl)
   (try simp only [tdz]);refine tQ 16 (h := ?_);refine tst (i := 17) fun K hK => ?_;go_simp;have OW17 := OW.alloc (.cells #[.int .i64 xr, .int .i64 xk, .int .i64 xn] 42);refine kOut hK (OW17) (h := ?_);clear hK K;refine tst (i := 18) fun K hK => ?_;refine step_append_row _ rfl (.tmp 12) (.tmp 29) 27 rfl w.heap.size 42 i0 _ 3 24 Tryd.underlying27 hi hz0 hz1 hz2 rfl (by omega) _ k (cmdC (l.take k)) (by rfl) (own_only hV.out OW17 (by simp)) (wz.heap.size + 1) (some ⟨wz.heap.size, 0, none⟩) 1 1 [.int .i64 xr, .int .i64 xk, .int .i64 xn] (by rfl) (by rfl) (row_lit wz 42 #[.int .i64 xr, .int .i64 xk, .int .i64 xn]) (by intro u hu; simp at hu; rcases hu with rfl | rfl | rfl <;> rfl) (by unfold maxLen; omega) (by omega) (by have := OW17.size; omega) ?_;intro v4 w4 own4 grow4 _;obtain ⟨A4, c4, rfl, -, -, -, -⟩ := own_row own4;have HO4 := Hd ((hO.out.trans OW17).step (only_grown grow4) (fun i hi hl => by have := (hV.out.lt i (by simpa using hi)).1; omega));refine hK.out _ _ (timed_over (by kernel_rfl) (timed_nil)) ?_;clear hK K;(try simp only [tdz]);refine tQ 19 (h := ?_);refine tdn ?_;have HV4 : Hid (w4.ownsRow w.heap.size 42 3 (.slice A4 (k + 1) c4) (k + 1) (cmdC (l.take (k + 1)))) := Hd (by rw [HTK.out]; exact own4);clear own4 grow4 OW OW17 hV hO HA0 HA1 HA2;go_wp2
   go_roundw
   case rel => exact ⟨k + 1, by go_num, by omega, HV4, HO4⟩
   case measure => simp [intOf]; omega
  ·have hkn : k = n := by omega
   subst hkn;have hd : decide ((k : Int) < (k : Int)) = false := by simp
   have hv := hV.out;rw [List.take_of_length_le (by rw [HN.out]; exact Nat.le_refl _)] at hv;have HV := Hd hv;clear hV hv;go_wp2
   go_ret
   first | exact ⟨_, ⟨rfl, HV.out⟩, hO.out⟩ | exact ⟨⟨_, rfl, HV.out⟩, hO.out⟩
set_option maxRecDepth 100000 in
theorem give43_any (A : Option Addr) (n c B : Nat) (l : List Cmd) (w : World) (hg : Row w B A (cmdC l)) (hn : l.length = n) (hM : n ≤ 9223372036854775807) :
  Calls Tryd.prog 13 #[.slice A n c, .int .i64 210] w fun e w' => ∃ V, (e = .returned V ∧ w'.ownsRow w.heap.size 40 3 V (min n 210) (cmdC (l.take 210))) ∧ Only [] w w' := by
 obtain ⟨i0, hi, hz0, hz1, hz2⟩ := info_parts info_cline;have HG := Hd hg;have HN := Hd hn;obtain ⟨m, hm⟩ : ∃ m, m = min n 210 := ⟨_, rfl⟩;rw [← hm];have HM := Hd hm;have hm1 : m ≤ n := by omega
 have hm2 : m ≤ 210 := by omega
 have HV0 : Hid ((w.alloc (.cells #[] 40)).ownsRow w.heap.size 40 3 (.slice (some ⟨w.heap.size, 0, none⟩) 0 0) 0 (cmdC (l.take 0))) := Hd (World.ownsRow_lit w (e := 40) (size := 3) #[] 0 (Nat.le_refl _) (by unfold maxLen; omega) rfl);have HO0 := Hd ((Only.refl [] w).alloc (.cells #[] 40));clear hg hn hm;go_enter Tryd.func13, Tryd.ntmps13;go_wp2_with fail
 go_loopw [5, 6] (fun V iv wr => ∃ k : Nat, iv = .int .i64 k ∧ k ≤ m ∧ Hid (wr.ownsRow w.heap.size 40 3 V k (cmdC (l.take k))) ∧ Hid (Only [] w wr)) (fun _ iv _ => m - (intOf iv).toNat)
 case atStart => exact ⟨0, rfl, by omega, HV0, HO0⟩
 case round =>
  obtain ⟨k, rfl, hk, hV, hO⟩ := hrel;have hsz := hO.out.size;obtain ⟨A3, c3, rfl, -, -, -, -⟩ := own_row hV.out
  by_cases hlt : k < m
  ·obtain ⟨⟨xr, xk, xn⟩, hx⟩ : ∃ x, l[k]? = some x := ⟨_, List.getElem?_eq_getElem (by rw [HN.out]; omega)⟩;obtain ⟨b, off, rfl, -, hbw, a0, a1, a2⟩ := row_cmd (HG.out.only hO.out (by simp)) hx;dsimp only at a0 a1 a2;have HTK := Hd (cmdC_take hx);have HA0 := Hd a0;have HA1 := Hd a1;have HA2 := Hd a2;have h01 : (k : Int) < (n : Int) := by omega
   have h02 : (k : Int) < 210 := by omega
   have hk0 : (0 : Int) ≤ (k : Int) := Int.natCast_nonneg _;have hwk : IntKind.i64.wrap ((k : Int) + 1) = (k : Int) + 1 := IntWalk.i64_in _ (by omega);clear hx a0 a1 a2;go_upto_region 5 with (fail)
   refine rg1 [18] [] wr ?_;have OW : Only [] wr wr.drew := (Only.refl [] wr).drew;generalize wr.drew = wz at *;refine tQ 0 (h := tQ 1 (h := tQ 2 (h := tQ 3 (h := tQ 4 (h := ?_)))));refine timed_readD (i := 5) (v := ?_) 0 rfl (by kernel_rfl) (by kernel_rfl) (by kernel_rfl) (fun _ _ _ h => h) (by kernel_rfl) (by kernel_rfl) rfl (by kernel_rfl) ?_ ?_;rotate_left
   ·(intro wq hSw; have y0 := (hSw.cell (p := ⟨b, off + k * 3, none⟩) hbw (by simp)).trans HA0.out; have y1 := (hSw.cell (p := ⟨b, off + k * 3 + 1, none⟩) hbw (by simp)).trans HA1.out; have y2 := (hSw.cell (p := ⟨b, off + k * 3 + 2, none⟩) hbw (by simp)).trans HA2.out; clear hSw; go_simp; try with_reducible rfl)
   (try simp only [tdz]);refine tQ 6 (h := tQ 7 (h := tQ 8 (h := tQ 9 (h := ?_))));refine timed_readD (i := 10) (v := ?_) 0 rfl (by kernel_rfl) (by kernel_rfl) (by kernel_rfl) (fun _ _ _ h => h) (by kernel_rfl) (by kernel_rfl) rfl (by kernel_rfl) ?_ ?_;rotate_left
   ·(intro wq hSw; have y0 := (hSw.cell (p := ⟨b, off + k * 3, none⟩) hbw (by simp)).trans HA0.out; have y1 := (hSw.cell (p := ⟨b, off + k * 3 + 1, none⟩) hbw (by simp)).trans HA1.out; have y2 := (hSw.cell (p := ⟨b, off + k * 3 + 2, none⟩) hbw (by simp)).trans HA2.out; clear hSw; go_simp; try with_reducible rfl)
   (try simp only [tdz]);refine tQ 11 (h := tQ 12 (h := tQ 13 (h := tQ 14 (h := ?_))));refine timed_readD (i := 15) (v := ?_) 0 rfl (by kernel_rfl) (by kernel_rfl) (by kernel_rfl) (fun _ _ _ h => h) (by kernel_rfl) (by kernel_rfl) rfl (by kernel_rfl) ?_ ?_;rotate_left
   ·(intro wq hSw; have y0 := (hSw.cell (p := ⟨b, off + k * 3, none⟩) hbw (by simp)).trans HA0.out; have y1 := (hSw.cell (p := ⟨b, off + k * 3 + 1, none⟩) hbw (by simp)).trans HA1.out; have y2 := (hSw.cell (p := ⟨b, off + k * 3 + 2, none⟩) hbw (by simp)).trans HA2.out; clear hSw; go_simp; try with_reducible rfl)
   (try simp only [tdz]);refine tQ 16 (h := ?_);refine tst (i := 17) fun K hK => ?_;go_simp;have OW17 := OW.alloc (.cells #[.int .i64 xr, .int .i64 xk, .int .i64 xn] 40);refine kOut hK (OW17) (h := ?_);clear hK K;refine tst (i := 18) fun K hK => ?_;refine step_append_row _ rfl (.tmp 19) (.tmp 36) 23 rfl w.heap.size 40 i0 _ 3 24 Tryd.underlying23 hi hz0 hz1 hz2 rfl (by omega) _ k (cmdC (l.take k)) (by rfl) (own_only hV.out OW17 (by simp)) (wz.heap.size + 1) (some ⟨wz.heap.size, 0, none⟩) 1 1 [.int .i64 xr, .int .i64 xk, .int .i64 xn] (by rfl) (by rfl) (row_lit wz 40 #[.int .i64 xr, .int .i64 xk, .int .i64 xn]) (by intro u hu; simp at hu; rcases hu with rfl | rfl | rfl <;> rfl) (by unfold maxLen; omega) (by omega) (by have := OW17.size; omega) ?_;intro v4 w4 own4 grow4 _;obtain ⟨A4, c4, rfl, -, -, -, -⟩ := own_row own4;have HO4 := Hd ((hO.out.trans OW17).step (only_grown grow4) (fun i hi hl => by have := (hV.out.lt i (by simpa using hi)).1; omega));refine hK.out _ _ (timed_over (by kernel_rfl) (timed_nil)) ?_;clear hK K;(try simp only [tdz]);refine tQ 19 (h := ?_);refine tdn ?_;have HV4 : Hid (w4.ownsRow w.heap.size 40 3 (.slice A4 (k + 1) c4) (k + 1) (cmdC (l.take (k + 1)))) := Hd (by rw [HTK.out]; exact own4);clear own4 grow4 OW OW17 hV hO HA0 HA1 HA2;go_wp2
   go_roundw
   case rel => exact ⟨k + 1, by go_num, by omega, HV4, HO4⟩
   case measure => simp [intOf]; omega
  ·have hkn : k = m := by omega
   subst hkn;have hv := hV.out;have e1 : l.take k = l.take 210 := by
    rw [HM.out]
    by_cases h : n ≤ 210
    ·rw [List.take_of_length_le (by rw [HN.out]; omega), List.take_of_length_le (by rw [HN.out]; exact h)]
    ·rw [show min n 210 = 210 by omega]
   rw [e1] at hv;have HV := Hd hv;clear hV hv e1
   by_cases h2 : k = n
   ·have hd : decide ((k : Int) < (n : Int)) = false := by simp; omega
    have hd2 : decide (k < n) = false := by simp; omega
    clear hlt;go_wp2
    go_ret
    first | exact ⟨_, ⟨rfl, HV.out⟩, hO.out⟩ | exact ⟨⟨_, rfl, HV.out⟩, hO.out⟩
   ·obtain rfl : k = 210 := by have := HM.out; omega
    have hd : decide ((210 : Int) < (n : Int)) = true := by simp; omega
    have hd2 : decide (210 < n) = true := by simp; omega
    clear hlt;go_wp2
    go_ret
    first | exact ⟨_, ⟨rfl, HV.out⟩, hO.out⟩ | exact ⟨⟨_, rfl, HV.out⟩, hO.out⟩
def cut43 (s : ByteArray) : ByteArray := if 65536 < s.size then s.extract 0 65537 else s.extract 0 (min s.size 4000)
theorem cut43_any (s : ByteArray) (w : World) (hs : s.size ≤ 9223372036854775807) :
  Calls Tryd.prog 6 #[.string s] w fun e w' => e = .returned (.string (cut43 s)) ∧ w = w' := by
 unfold cut43
 by_cases h : 65536 < s.size
 ·rw [if_pos h];have h1 : (65536 : Int) < (s.size : Int) := by omega
  have h2 : (65537 : Int) ≤ (s.size : Int) := by omega
  clear h;go_enter Tryd.func6, Tryd.ntmps6;go_wp2
  go_ret
  exact ⟨rfl, rfl⟩
 ·rw [if_neg h];have hd : decide ((65536 : Int) < (s.size : Int)) = false := by simp; omega
  have hd2 : decide (65536 < s.size) = false := by simp; omega
  by_cases h4 : s.size ≤ 4000
  ·rw [show min s.size 4000 = s.size by omega];have hmin : min (s.size : Int) 4000 = (s.size : Int) := by omega
   have h5 : decide ((s.size : Int) ≤ 4000) = true := by simp; omega
   have h6 : ¬ (4000 < (s.size : Int)) := by omega
   clear h;go_enter Tryd.func6, Tryd.ntmps6;go_wp2
   go_ret
   exact ⟨rfl, rfl⟩
  ·rw [show min s.size 4000 = 4000 by omega];have hmin : min (s.size : Int) 4000 = 4000 := by omega
   have h5 : (4000 : Int) ≤ (s.size : Int) := by omega
   clear h;go_enter Tryd.func6, Tryd.ntmps6;go_wp2
   go_ret
   exact ⟨rfl, rfl⟩
end Go.Proofs.YtojpohmijlkagaaDoor
