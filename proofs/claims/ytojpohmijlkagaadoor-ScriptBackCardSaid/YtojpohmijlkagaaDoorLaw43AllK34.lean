/- Parts. -/
import Derived.Test.YtojpohmijlkagaaDoorLaw43AllK33
set_option maxRecDepth 10000
set_option maxHeartbeats 16000000
set_option linter.unusedVariables false
set_option linter.unusedSimpArgs false
namespace Go.Proofs.YtojpohmijlkagaaDoor
open Go.RowKit
open Go.Lib hiding intOf
attribute [local go_sem ↓] Go.wp_at_zero Go.wp_at_succ
set_option maxRecDepth 100000 in
theorem rone43_any (A : Option Addr) (n c B : Nat) (x0 : ByteArray) (q0 : Int) (t : List (ByteArray × Int)) (w : World) (hg : Row w B A (wcC ((x0, q0) :: t))) (hn : t.length + 1 = n) (hM : n ≤ 100000) (hs : ∀ x ∈ t, x.1.size ≤ 65537) :
  Calls Tryd.prog 24 #[.slice A n c] w fun e w' => ∃ kd nn, (e = .returned (.tuple #[.agg #[.int .i64 0, .int .i64 kd, .int .i64 nn], .int .i64 (cmdR x0 (t.map Prod.fst)).2.2]) ∧ ((cmdR x0 (t.map Prod.fst)).2.2 = 0 → kd = (cmdR x0 (t.map Prod.fst)).1 ∧ nn = (cmdR x0 (t.map Prod.fst)).2.1)) ∧ Only [] w w' := by
 have HFI := Hd (fun (k : Nat) (x : ByteArray) w' (hx : kwL[k]? = some x) => rfirst43_any k x w' hx);have HSE := Hd (fun (kd : Int) (x : ByteArray) w' h1 h3 hs => rsecond_any kd x w' h1 h3 hs);obtain ⟨b1, off1, rfl, -, hb1w, hcell⟩ := hg.open_ (k := 0) (by rw [wcC_len]; simp);have HX0 : Hid (w.cell? ⟨b1, off1, none⟩ = some (.string x0)) := Hd (by have := hcell 0 (.string x0) rfl; simpa using this);have HX1 : Hid (∀ x1 q1 t', t = (x1, q1) :: t' → w.cell? ⟨b1, off1 + 2, none⟩ = some (.string x1)) := Hd (fun x1 q1 t' e => by subst e; exact hcell 2 (.string x1) rfl);have HSZ := Hd hs;obtain ⟨⟨ck, cn, ce⟩, hcr⟩ : ∃ r, cmdR x0 (t.map Prod.fst) = r := ⟨_, rfl⟩;rw [hcr];have HCR := Hd hcr;have HN := Hd hn;have HZ0 := Hd (Blk.made w 42 #[.int .i64 0, .int .i64 0, .int .i64 0]);have HO0 := Hd ((Only.refl [] w).alloc (.cells #[.int .i64 0, .int .i64 0, .int .i64 0] 42));have hn1 : 1 ≤ n := by omega
 dsimp only;clear hcr hn hg hcell hs;go_enter Tryd.func24, Tryd.ntmps24;go_wp2_with fail
 obtain ⟨gr, hgr⟩ : ∃ g, g = w.heap.size := ⟨_, rfl⟩;rw [← hgr] at HZ0;rw [← hgr];have HGR := Hd hgr;clear hgr
 go_loopw [4] (fun iv wr => ∃ j : Nat, iv = .int .i64 ((j : Int) + 1) ∧ j ≤ 10 ∧ Hid (findB x0 kwL 0 = findB x0 (kwL.drop j) j) ∧ Hid (Only [] w wr) ∧ Hid (Blk wr gr 42 #[.int .i64 0, .int .i64 0, .int .i64 0])) (fun iv _ => 10 + 1 - (intOf iv).toNat)
 case atStart => exact ⟨0, rfl, by omega, Hd rfl, HO0, HZ0⟩
 case round =>
  obtain ⟨j, rfl, hj, hq, hO, hZ⟩ := hrel;have hwj : IntKind.i64.wrap ((j : Int) + 1 + 1) = (j : Int) + 1 + 1 := IntWalk.i64_in _ (by omega);have hsz := hO.out.size
  by_cases hlt : j < 10
  ·have h01j : (j : Int) + 1 ≤ 10 := by omega
   obtain ⟨y, hy⟩ : ∃ y, kwL[j]? = some y := ⟨_, List.getElem?_eq_getElem (show j < kwL.length from hlt)⟩;have HD := Hd (findB_drop (s := x0) (l := kwL) hy);have HY := Hd hy;have HXC := Hd ((hO.out.cell (p := ⟨b1, off1, none⟩) hb1w (by simp)).trans HX0.out);have hb1r : b1 < wr.heap.size := Nat.lt_of_lt_of_le hb1w hsz;have h0n : (0 : Int) < (n : Int) := by omega
   have h0n2 : 0 < n := by omega
   clear hy;go_wp2_with fail
   refine rg1 [] [] wr ?_;have OW : Only [] wr wr.drew := (Only.refl [] wr).drew;generalize wr.drew = wz at *;refine tQ 0 (h := tQ 1 (h := tQ 2 (h := ?_)));refine trd (i := 3) (v := ?_) 0 ?_ ?_;rotate_left
   ·(intro wq hSw; have y0 := (hSw.cell (p := ⟨b1, off1, none⟩) hb1r (by simp)).trans HXC.out; clear hSw; go_simp; try with_reducible rfl)
   (try simp only [tdz]);refine tQ 4 (h := ?_);refine tst (i := 5) fun K hK => ?_;go_simp;refine (HFI.out j y wz HY.out).mono ?_;rintro e w5 ⟨rfl, O5⟩;have OW5 := OW.trans O5;refine kOut hK (OW5) (h := ?_);clear hK K;refine tQ 6 (h := ?_);refine tdn ?_;have HO5 := Hd (hO.out.trans OW5);have HZ5 := Hd (OW5.blk hZ.out (by simp));clear OW O5 OW5 hO hZ HXC
   by_cases e : y = x0
   ·have HE : Hid (findB x0 kwL 0 = some j) := Hd (by rw [hq.out, HD.out, if_pos e]);have HCM : Hid ((ck, cn, ce) = ((j : Int) + 1, (operR ((j : Int) + 1) (t.map Prod.fst)).1, (operR ((j : Int) + 1) (t.map Prod.fst)).2)) := Hd (by rw [← HCR.out]; unfold cmdR; rw [HE.out]);subst e;rw [show (!(y.toList == y.toList)) = false by simp];clear HD HE hq HY HX0;have hgs : gr < w5.heap.size := HZ5.out.lt
    by_cases h3 : 3 < (j : Int) + 1
    ·have d3 : decide (3 < (j : Int) + 1) = true := decide_eq_true h3;have e0 : operR ((j : Int) + 1) (t.map Prod.fst) = (0, if t.length = 0 then 0 else 5) := by unfold operR; rw [if_pos h3, List.length_map]
     by_cases ht : t.length = 0
     ·rw [e0, if_pos ht] at HCM;have hn1 : ((n : Int) == 1) = true := by have := HN.out; simp; omega
      obtain ⟨rfl, rfl, rfl⟩ : ck = (j : Int) + 1 ∧ cn = 0 ∧ ce = 0 := by have := HCM.out; injection this with h1 h2; injection h2 with h2 h3; exact ⟨h1, h2, h3⟩
      clear HCM e0 h3;go_wp2_with (refine wpList_store_blk rfl 42 (.tmp 2) (.tmp 26) rfl gr 42 _ #[.int .i64 0, .int .i64 ((j : Int) + 1), .int .i64 0] rfl rfl HZ5.out rfl (by kernel_rfl) (by kernel_rfl) ?_; intro w9 b9 o9; have HB9 := Hd b9; have HN9 := Hd o9; clear b9 o9)
      refine bodyPost_ret (results_row2 Tryd.results24 _ _ gr 42 #[.int .i64 0, .int .i64 ((j : Int) + 1), .int .i64 0] _ rfl HB9.out Tryd.underlying42 rfl (by kernel_rfl)) rfl ?_;have HEN := HO5.out.step HN9.out (fun i hi hl => by simp at hi; have := HGR.out; omega)
      first | exact ⟨_, _, ⟨rfl, fun _ => ⟨rfl, rfl⟩⟩, HEN⟩ | exact ⟨rfl, HEN⟩ | exact ⟨⟨_, _, rfl, rfl, rfl⟩, HEN⟩ | (trace_state; fail)
     ·rw [e0, if_neg ht] at HCM;have hn1 : ((n : Int) == 1) = false := by have := HN.out; simp; omega
      obtain ⟨rfl, rfl, rfl⟩ : ck = (j : Int) + 1 ∧ cn = 0 ∧ ce = 5 := by have := HCM.out; injection this with h1 h2; injection h2 with h2 h3; exact ⟨h1, h2, h3⟩
      clear HCM e0 h3 ht;go_wp2_with (refine wpList_store_blk rfl 42 (.tmp 2) (.tmp 34) rfl gr 42 _ #[.int .i64 0, .int .i64 0, .int .i64 0] rfl rfl HZ5.out rfl (by kernel_rfl) (by kernel_rfl) ?_; intro w9 b9 o9; have HB9 := Hd b9; have HN9 := Hd o9; clear b9 o9)
      refine bodyPost_ret (results_row2 Tryd.results24 _ _ gr 42 #[.int .i64 0, .int .i64 0, .int .i64 0] _ rfl HB9.out Tryd.underlying42 rfl (by kernel_rfl)) rfl ?_;exact ⟨_, _, ⟨rfl, fun h => by cases h⟩, HO5.out.step HN9.out (fun i hi hl => by simp at hi; have := HGR.out; omega)⟩
    ·have d3 : decide (3 < (j : Int) + 1) = false := decide_eq_false h3
     by_cases ht : t.length = 1
     ·obtain ⟨⟨x1, q1⟩, rfl⟩ : ∃ x, t = [x] := List.length_eq_one_iff.1 ht;have hn2 : ((n : Int) != 2) = false := by have := HN.out; simp at this ⊢; omega
      have h1n : (1 : Int) < (n : Int) := by have := HN.out; simp at this; omega
      have h1n2 : 1 < n := by omega
      have HXC := Hd ((HO5.out.cell (p := ⟨b1, off1 + 2, none⟩) hb1w (by simp)).trans (HX1.out x1 q1 [] rfl));have hxc := HXC.out;have hb15 : b1 < w5.heap.size := Nat.lt_of_lt_of_le hb1w HO5.out.size;have HS2 := Hd (HSE.out ((j : Int) + 1) x1 w5 (by omega) (by omega) (by have := HSZ.out (x1, q1) List.mem_cons_self; dsimp only at this; omega));have HCM2 : Hid ((ck, cn, ce) = ((j : Int) + 1, (operR ((j : Int) + 1) [x1]).1, (operR ((j : Int) + 1) [x1]).2)) := HCM;obtain ⟨⟨oa, ob⟩, hor⟩ : ∃ r, operR ((j : Int) + 1) [x1] = r := ⟨_, rfl⟩;rw [hor] at HS2 HCM2;obtain ⟨rfl, rfl, rfl⟩ : ck = (j : Int) + 1 ∧ cn = oa ∧ ce = ob := by have := HCM2.out; injection this with h1 h2; injection h2 with h2 h3; exact ⟨h1, h2, h3⟩
      clear HCM HCM2 hor h3 ht HSZ HX1 HCR HSE HFI;go_wp2_with fail
      refine (HS2.out).mono ?_;rintro e w6 ⟨rfl, O6⟩;have HO6 := Hd (HO5.out.trans O6);have HZ6 := Hd (O6.blk HZ5.out (by simp));have hgs6 : gr < w6.heap.size := HZ6.out.lt;clear O6 HO5 HZ5 HS2 hxc HXC;go_wp2_with (refine wpList_store_blk rfl 42 (.tmp 2) (.tmp 46) rfl gr 42 _ #[.int .i64 0, .int .i64 ((j : Int) + 1), .int .i64 cn] rfl rfl HZ6.out rfl (by kernel_rfl) (by kernel_rfl) ?_; intro w9 b9 o9; have HB9 := Hd b9; have HN9 := Hd o9; clear b9 o9)
      refine bodyPost_ret (results_row2 Tryd.results24 _ _ gr 42 #[.int .i64 0, .int .i64 ((j : Int) + 1), .int .i64 cn] _ rfl HB9.out Tryd.underlying42 rfl (by kernel_rfl)) rfl ?_;exact ⟨_, _, ⟨rfl, fun _ => ⟨rfl, rfl⟩⟩, HO6.out.step HN9.out (fun i hi hl => by simp at hi; have := HGR.out; omega)⟩
     ·have hn2 : ((n : Int) != 2) = true := by have := HN.out; simp; omega
      rw [operR_many h3 (by rw [List.length_map]; exact ht)] at HCM;obtain ⟨rfl, rfl, rfl⟩ : ck = (j : Int) + 1 ∧ cn = 0 ∧ ce = 5 := by have := HCM.out; injection this with h1 h2; injection h2 with h2 h3; exact ⟨h1, h2, h3⟩
      clear HCM h3 ht;go_wp2_with (refine wpList_store_blk rfl 42 (.tmp 2) (.tmp 34) rfl gr 42 _ #[.int .i64 0, .int .i64 0, .int .i64 0] rfl rfl HZ5.out rfl (by kernel_rfl) (by kernel_rfl) ?_; intro w9 b9 o9; have HB9 := Hd b9; have HN9 := Hd o9; clear b9 o9)
      refine bodyPost_ret (results_row2 Tryd.results24 _ _ gr 42 #[.int .i64 0, .int .i64 0, .int .i64 0] _ rfl HB9.out Tryd.underlying42 rfl (by kernel_rfl)) rfl ?_;exact ⟨_, _, ⟨rfl, fun h => by cases h⟩, HO5.out.step HN9.out (fun i hi hl => by simp at hi; have := HGR.out; omega)⟩
   ·have HE : Hid (findB x0 kwL 0 = findB x0 (kwL.drop (j + 1)) (j + 1)) := Hd (by rw [hq.out, HD.out, if_neg e]);have hb : (x0.toList == y.toList) = false := bytes_off (fun h => e h.symm);rw [show (!(x0.toList == y.toList)) = true by rw [hb]; rfl];clear hb;clear e HD hq;go_wp2
    go_roundw
    case rel => exact ⟨j + 1, by go_num, by omega, HE, HO5, HZ5⟩
    case measure => simp [intOf]; omega
  ·obtain rfl : j = 10 := by omega
   have h2 : Hid ((ck, cn, ce) = (0, 0, 5)) := Hd (by
    have h1 : findB x0 kwL 0 = none := by rw [hq.out, List.drop_of_length_le (show kwL.length ≤ 10 from Nat.le_refl _)]; rfl
    rw [← HCR.out];unfold cmdR;rw [h1])
   obtain ⟨rfl, rfl, rfl⟩ : ck = 0 ∧ cn = 0 ∧ ce = 5 := by have := h2.out; injection this with h1 h2; injection h2 with h2 h3; exact ⟨h1, h2, h3⟩
   have hgs : gr < wr.heap.size := hZ.out.lt;clear h2 hq HCR;go_wp2_with (refine wpList_store_blk rfl 42 (.tmp 2) (.tmp 48) rfl gr 42 _ #[.int .i64 0, .int .i64 0, .int .i64 0] rfl rfl hZ.out rfl (by kernel_rfl) (by kernel_rfl) ?_; intro w9 b9 o9; have HB9 := Hd b9; have HN9 := Hd o9; clear b9 o9)
   refine bodyPost_ret (results_row2 Tryd.results24 _ _ gr 42 #[.int .i64 0, .int .i64 0, .int .i64 0] _ rfl HB9.out Tryd.underlying42 rfl (by kernel_rfl)) rfl ?_;exact ⟨_, _, ⟨rfl, fun h => by cases h⟩, hO.out.step HN9.out (fun i hi hl => by simp at hi; have := HGR.out; omega)⟩
end Go.Proofs.YtojpohmijlkagaaDoor
