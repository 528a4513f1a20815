/- Parts. -/
import Derived.Test.YthdofaoamljkfaaGreatDoorLaw24AllK46
set_option maxRecDepth 10000
set_option maxHeartbeats 16000000
set_option linter.unusedVariables false
set_option linter.unusedSimpArgs false
namespace Go.Proofs.YthdofaoamljkfaaGreatDoor
open Go.RowKit
open Go.Lib hiding intOf
attribute [local go_sem ↓] Go.wp_at_zero Go.wp_at_succ
theorem blk_row24 {w : World} {g : Nat} {t : TypeId} {cs : Array Value} (h : Blk w g t cs) : Row w w.heap.size (some ⟨g, 0, none⟩) cs.toList :=
 .inr ⟨g, 0, rfl, h.lt, Nat.le_refl _, fun j u hu => by rw [Nat.zero_add, h.at_ j]; simpa using hu⟩
section
variable (A0 A1 A2 : Option Addr) (n0 n1 n2 c0 c1 c2 B : Nat) (h : Hst)
theorem rall24_any (K : Nat) (hK : 1 ≤ K) (hK4 : K ≤ 1000) (w : World) (hg : HIn w B A0 A1 A2 n0 n1 n2 h) (hw : wholeB h = true) :
  Calls Tryz.prog 23 #[hval A0 A1 A2 n0 n1 n2 c0 c1 c2, .int .i64 (K : Int)] w fun e w' => ∃ A cp xs, (e = .returned (.slice A (allM K (choL h)).length cp) ∧ Rows2 w' w.heap.size (.slice A (allM K (choL h)).length cp) xs (allM K (choL h))) ∧ Only [] w w' := by
 obtain ⟨i0, hi, hz0, hz1, hz2⟩ := info_parts info_int;obtain ⟨i1, hi1, hy0, hy1, hy2⟩ := info_parts info_rowc;have HRD := Hd (fun w' (O : Only [] w w') => rcho24_any A0 A1 A2 n0 n1 n2 c0 c1 c2 B h w' (hg.same O) (whole_may hw));have hn40 := (may_ops (whole_may hw)).1;have hn8 := choL_max hw;have HFW3 := Hd (fun c (hc : c ∈ choL h) => show c.length ≤ 1000 by have h1 := choL_few hc; omega);unfold hval at *;clear hg hw hn40;have HO1 := Hd ((Only.refl [] w).alloc (.cells #[.slice A0 n0 c0, .slice A1 n1 c1, .slice A2 n2 c2] 25));have HB1 := Hd (Blk.made w 25 #[.slice A0 n0 c0, .slice A1 n1 c1, .slice A2 n2 c2]);generalize choL h = C at *;obtain ⟨n, hn⟩ : ∃ n, C.length = n := ⟨_, rfl⟩;have HN := Hd hn;rw [hn] at HRD hn8;obtain ⟨R, hR⟩ : ∃ R, allM K C = R := ⟨_, rfl⟩;rw [hR];have HDR := Hd hR;have HAL := Hd (fun i => allM_le hK (C.take i));have HAN := Hd (fun i (hi : i ≤ n) o (ho : o ∈ allM K (C.take i)) => allM_len K i (C.take i) (by rw [List.length_take]; omega) o ho);clear hR hn;go_enter Tryz.func23, Tryz.ntmps23;go_upto_region 1 with (fail)
 generalize (w.alloc (.cells #[.slice A0 n0 c0, .slice A1 n1 c1, .slice A2 n2 c2] 25)) = w1 at *;have lB := HB1.out.lt;have y0 := HB1.out.at_ 0;have y1 := HB1.out.at_ 1;have y2 := HB1.out.at_ 2;simp at y0 y1 y2;go_wp2_with fail
 refine (HRD.out _ HO1.out).mono ?_;rintro e w3 ⟨A, cp, xs, ⟨rfl, hV⟩, O3⟩;have HC := Hd hV;have HO3 := Hd (HO1.out.trans O3);have hsz3 : w.heap.size ≤ w3.heap.size := by have := HO1.out.size; have := O3.size; omega
 clear O3 hV HRD HB1 lB y0 y1 y2;have OL : Only [] w3 ((w3.alloc (.cells #[] 3)).alloc (.cells #[.slice (some ⟨w3.heap.size, 0, none⟩) 0 0] 26)) := ((Only.refl [] w3).alloc _).alloc _;have HX4 : Hid (Rows2 ((w3.alloc (.cells #[] 3)).alloc (.cells #[.slice (some ⟨w3.heap.size, 0, none⟩) 0 0] 26)) w3.heap.size (.slice (some ⟨w3.heap.size + 1, 0, none⟩) 1 1) [⟨[], some ⟨w3.heap.size, 0, none⟩, 0⟩] [[]]) := Hd (by
  refine ⟨?_, rfl, fun x hx => ?_⟩
  ·have h1 := World.ownsRow_lit (w3.alloc (.cells #[] 3)) (base := w3.heap.size) (e := 26) (size := 1) #[.slice (some ⟨w3.heap.size, 0, none⟩) 0 0] 1 (by simp) (by unfold maxLen; omega) rfl;simp only [World.size_alloc] at h1;exact h1
  ·obtain rfl := List.mem_singleton.1 hx;exact own_only (World.ownsRow_lit w3 (base := w3.heap.size) (e := 3) (size := 1) #[] 0 (Nat.le_refl _) (by unfold maxLen; omega) rfl) ((Only.refl [] _).alloc _) (by simp))
 have HO4 := Hd OL;clear OL;go_upto_region 3 with (fail)
 generalize ((w3.alloc (.cells #[] 3)).alloc (.cells #[.slice (some ⟨w3.heap.size, 0, none⟩) 0 0] 26)) = w4 at *;generalize hg1 : w3.heap.size + 1 = g1 at *;obtain ⟨wo, hwo⟩ : ∃ wo : World, wo = w3 := ⟨_, rfl⟩;subst hwo;go_wp2_with fail
 go_loopw [6, 7] (fun V iv wr => ∃ (i : Nat) (ys : List SlI), iv = .int .i64 (i : Int) ∧ i ≤ n ∧ Hid (Rows2 wr wo.heap.size V ys (allM K (C.take i))) ∧ Hid (Only [] wo wr)) (fun _ iv _ => n - (intOf iv).toNat)
 case atStart => exact ⟨0, _, rfl, by omega, HX4, HO4⟩
 case round =>
  obtain ⟨i, ys, rfl, hi3, hX, hO⟩ := hrel;clear HX4 HO4
  by_cases hlt : i < n
  ·obtain ⟨ci, hc⟩ : ∃ ci, C[i]? = some ci := ⟨_, List.getElem?_eq_getElem (by rw [HN.out]; exact hlt)⟩;have hcl := HFW3.out ci (List.mem_of_getElem? hc);have HAS := Hd (fun k hk => allM_step (K := K) hc (k := k) hk);have hol := HAL.out i;have HON := Hd (HAN.out i hi3);obtain ⟨AX, cX, rfl⟩ := hX.out.val;obtain ⟨bC, oC, Ak, ck, rfl, hbC, hcc, hown⟩ := (HC.out.same hO.out).cell (n := n) hc;have HE0 := Hd hcc;have HOW := Hd hown;generalize allM K (C.take i) = out at *;obtain ⟨no, hno⟩ : ∃ no, out.length = no := ⟨_, rfl⟩;have HNO := Hd hno;obtain ⟨nc, hnc⟩ : ∃ nc, ci.length = nc := ⟨_, rfl⟩;have HNC := Hd hnc;rw [hno] at hX hol;rw [hno];rw [hnc] at HE0 HOW hcl;have h01 : (i : Int) < (n : Int) := by omega
   have hi0 : (0 : Int) ≤ (i : Int) := Int.natCast_nonneg _;have hwi : IntKind.i64.wrap ((i : Int) + 1) = (i : Int) + 1 := IntWalk.i64_in _ (by omega);clear hc hcc hown hno hnc;obtain ⟨wq, hwq⟩ : ∃ wq : World, wq = wr := ⟨_, rfl⟩;subst hwq;have OL2 : Only [] wq (wq.alloc (.cells #[] 26)) := (Only.refl [] wq).alloc _;have HM0 : Hid (Rows2 (wq.alloc (.cells #[] 26)) wq.heap.size (.slice (some ⟨wq.heap.size, 0, none⟩) 0 0) [] (midM K out ci 0)) := Hd ⟨World.ownsRow_lit wq (base := wq.heap.size) (e := 26) (size := 1) #[] 0 (Nat.le_refl _) (by unfold maxLen; omega) rfl, by rw [midM_zero]; rfl, fun x hx => by cases hx⟩;have HOL2 := Hd OL2;clear OL2;go_upto_region 7 with (fail)
   generalize (wq.alloc (.cells #[] 26)) = w5 at *;generalize hgq : wq.heap.size = gq at *;go_wp2_with fail
   go_loopw [8, 9] (fun V kv wr => ∃ (k : Nat) (zs : List SlI), kv = .int .i64 (k : Int) ∧ k ≤ no ∧ Hid (Rows2 wr gq V zs (midM K out ci k)) ∧ Hid (Only [] wq wr)) (fun _ kv _ => no - (intOf kv).toNat)
   case atStart => exact ⟨0, _, rfl, by omega, HM0, HOL2⟩
   case round =>
    obtain ⟨k, zs, rfl, hk, hZ, hOk⟩ := hrel;clear HM0 HOL2
    by_cases hlk : k < no
    ·obtain ⟨o, ho⟩ : ∃ o, out[k]? = some o := ⟨_, List.getElem?_eq_getElem (by rw [HNO.out]; exact hlk)⟩;have hon := HON.out o (List.mem_of_getElem? ho);have HIE := Hd (fun j he => innM_end (K := K) (ci := ci) (j := j) ho he);have hk0 : (0 : Int) ≤ (k : Int) := Int.natCast_nonneg _;have hk1 : (k : Int) < (no : Int) := by omega
     have hwk : IntKind.i64.wrap ((k : Int) + 1) = (k : Int) + 1 := IntWalk.i64_in _ (by omega);have HHO := Hd ho;have HZ0 := hZ;rw [← innM_zero K out ci k o] at HZ0;clear hZ ho;obtain ⟨wk, hwk2⟩ : ∃ wk : World, wk = wr := ⟨_, rfl⟩;subst hwk2;go_wp2_with fail
     go_loopw [8, 10] (fun V jv wr => ∃ (j : Nat) (zs : List SlI), jv = .int .i64 (j : Int) ∧ j ≤ nc ∧ Hid (Rows2 wr gq V zs (innM K out ci k o j)) ∧ Hid (Only [] wq wr)) (fun _ jv _ => nc - (intOf jv).toNat)
     case atStart => exact ⟨0, zs, rfl, by omega, HZ0, hOk⟩
     case round =>
      obtain ⟨j, zs, rfl, hj, hZ, hOj⟩ := hrel;clear HZ0 hOk;obtain ⟨AZ, cZ, rfl⟩ := hZ.out.val;have hzl := innM_le K out ci k o j;have hcC := (hOj.out.cell (p := ⟨bC, oC + i, none⟩) (by rw [hgq]; exact hbC) (by simp)).trans HE0.out;have hbC1 : bC < wr.heap.size := by have := hOj.out.size; rw [hgq] at this; omega
      have hj0 : (0 : Int) ≤ (j : Int) := Int.natCast_nonneg _;have HSP := Hd (fun x (hx : ci[j]? = some x) hl => innM_step (K := K) (out := out) (k := k) (o := o) hx hl);have HIE1 := Hd (HIE.out j);generalize innM K out ci k o j = Z at *;obtain ⟨nz, hnz⟩ : ∃ nz, Z.length = nz := ⟨_, rfl⟩;have HNZ := Hd hnz;rw [hnz] at hZ hzl HSP HIE1 ⊢;clear hnz
      by_cases hlj : j < nc
      ·by_cases hlz : nz < K
       ·have hj1 : (j : Int) < (nc : Int) := by omega
        have hz9 : (nz : Int) < (K : Int) := by omega
        have hwj : IntKind.i64.wrap ((j : Int) + 1) = (j : Int) + 1 := IntWalk.i64_in _ (by omega);obtain ⟨x, hx⟩ : ∃ x, ci[j]? = some x := ⟨_, List.getElem?_eq_getElem (by rw [HNC.out]; exact hlj)⟩;have HST := Hd (HSP.out x hx hlz);obtain ⟨bX, oX, Ao, co, rfl, hbX, hcX, hownX⟩ := (hX.out.same hOj.out).cell (n := no) HHO.out;obtain ⟨bA, oA, rfl, -, hbA, hcA⟩ := (own_row_at (own_only HOW.out hOj.out (by simp))).1.open_ (k := j) (by rw [List.length_map, HNC.out]; exact hlj);have HX0 := Hd hcX;have HA0 := Hd (hcA j _ (by rw [List.getElem?_map, hx]; rfl));have HC0 := Hd hcC;have HNT := Hd (fun w' (O : Only [] wr w') => ints_any Ao o.length co (o.map (Value.int .i64)) w' (own_row_at (own_only hownX O (by simp))).1 (by rw [List.length_map]) (fun u hu => by obtain ⟨v, -, rfl⟩ := List.mem_map.1 hu; rfl) (by omega));have HOL := Hd (show (o ++ [x]).length = o.length + 1 by simp);have HNQ := Hd hon;rw [hon] at HNT HX0 HOL;clear hx hcX hcA hownX hon;go_upto_region 13 with (fail)
        clear hcC;refine rg1 [16] [] wr ?_;have OW : Only [] wr wr.drew := (Only.refl [] wr).drew;generalize hwz : wr.drew = wz at *;clear hwz;refine tQ 0 (h := tQ 1 (h := tQ 2 (h := tQ 3 (h := ?_))));refine timed_readD (i := 4) (v := ?_) 0 rfl (by kernel_rfl) (by kernel_rfl) (by kernel_rfl) (fun _ _ _ h => h) (by kernel_rfl) (by kernel_rfl) rfl (by kernel_rfl) ?_ ?_;rotate_left
        ·(intro wq hSw; have e0 := (hSw.cell (p := ⟨bX, oX + k, none⟩) hbX (by simp)).trans HX0.out; have e1 := (hSw.cell (p := ⟨bC, oC + i, none⟩) hbC1 (by simp)).trans HC0.out; have e2 := (hSw.cell (p := ⟨bA, oA + j, none⟩) hbA (by simp)).trans HA0.out; have lb_ := Nat.lt_of_lt_of_le hbX hSw.size; have lb2_ := Nat.lt_of_lt_of_le hbC1 hSw.size; have lb3_ := Nat.lt_of_lt_of_le hbA hSw.size; clear hSw; go_simp; try with_reducible rfl)
        (try simp only [tdz]);refine tQ 6 (h := tQ 7 (h := tQ 8 (h := ?_)));refine timed_readD (i := 9) (v := ?_) 0 rfl (by kernel_rfl) (by kernel_rfl) (by kernel_rfl) (fun _ _ _ h => h) (by kernel_rfl) (by kernel_rfl) rfl (by kernel_rfl) ?_ ?_;rotate_left
        ·(intro wq hSw; have e0 := (hSw.cell (p := ⟨bX, oX + k, none⟩) hbX (by simp)).trans HX0.out; have e1 := (hSw.cell (p := ⟨bC, oC + i, none⟩) hbC1 (by simp)).trans HC0.out; have e2 := (hSw.cell (p := ⟨bA, oA + j, none⟩) hbA (by simp)).trans HA0.out; have lb_ := Nat.lt_of_lt_of_le hbX hSw.size; have lb2_ := Nat.lt_of_lt_of_le hbC1 hSw.size; have lb3_ := Nat.lt_of_lt_of_le hbA hSw.size; clear hSw; go_simp; try with_reducible rfl)
        (try simp only [tdz]);refine tQ 10 (h := tQ 11 (h := ?_));refine timed_readD (i := 12) (v := ?_) 0 rfl (by kernel_rfl) (by kernel_rfl) (by kernel_rfl) (fun _ _ _ h => h) (by kernel_rfl) (by kernel_rfl) rfl (by kernel_rfl) ?_ ?_;rotate_left
        ·(intro wq hSw; have e0 := (hSw.cell (p := ⟨bX, oX + k, none⟩) hbX (by simp)).trans HX0.out; have e1 := (hSw.cell (p := ⟨bC, oC + i, none⟩) hbC1 (by simp)).trans HC0.out; have e2 := (hSw.cell (p := ⟨bA, oA + j, none⟩) hbA (by simp)).trans HA0.out; have lb_ := Nat.lt_of_lt_of_le hbX hSw.size; have lb2_ := Nat.lt_of_lt_of_le hbC1 hSw.size; have lb3_ := Nat.lt_of_lt_of_le hbA hSw.size; clear hSw; go_simp; try with_reducible rfl)
        try simp only [tdz]
        apply cut_2_0_1 (fun w c5 gx A5 => (Only [] wr w) ∧ (w.ownsRow wr.heap.size 3 1 (.slice A5 i c5) i (o.map (Value.int .i64))) ∧ (Blk w gx 3 #[.int .i64 x]) ∧ (wr.heap.size ≤ gx))
        intro HST5_13
        apply cut_1_0 (fun w gx => (Only [] wr w) ∧ (Blk w gx 3 #[.int .i64 x]) ∧ (wr.heap.size ≤ gx))
        intro HST13
        apply cut_1_0_1 (fun w c5 A5 => (Only [] wr w) ∧ (w.ownsRow wr.heap.size 3 1 (.slice A5 i c5) i (o.map (Value.int .i64))))
        intro HST5
        ·refine timed_forks (l := [5, 13]) (by kernel_rfl) (by simp) (fork_cons ⟨_, rfl, fun K hK => ?_⟩ (fork_cons ⟨_, rfl, fun K hK => ?_⟩ (fork_nil)))
         ·go_simp;refine (HNT.out wz OW).mono ?_;rintro e w1 ⟨V5, rfl, own5, O5⟩;obtain ⟨A5, c5, rfl, -, -, -, -⟩ := own_row own5
          replace own5 := own_from own5 (show wr.heap.size ≤ wz.heap.size from OW.size)
          have OS := O5;have OWn := OW.trans OS;refine kOut hK (OWn) (h := ?_);clear hK K;exact HST5 w1 c5 A5 ⟨OWn, own5⟩
         ·go_simp;obtain ⟨OS, OWn, BLn, hszn⟩ := made_go 3 (#[.int .i64 x]) OW;generalize wz.alloc (.cells #[.int .i64 x] 3) = wn at *;generalize wz.heap.size = gx at *;refine kOut hK (OWn) (h := ?_);clear hK K;exact HST13 wn gx ⟨OWn, BLn, hszn⟩
        ·intro wz c5 A5 ⟨OW, own5⟩;refine tst (i := 13) fun K hK => ?_;go_simp;obtain ⟨OS, OWn, BLn, hszn⟩ := made_go 3 (#[.int .i64 x]) OW;generalize wz.alloc (.cells #[.int .i64 x] 3) = wn at *;generalize wz.heap.size = gx at *;refine kOut hK (OWn) (h := ?_);clear hK K;exact HST5_13 wn c5 gx A5 ⟨OWn, own_only own5 OS (by simp), BLn, hszn⟩
        ·intro wz gx ⟨OW, BL13, GE13⟩;refine tst (i := 5) fun K hK => ?_;go_simp;refine (HNT.out wz OW).mono ?_;rintro e w1 ⟨V5, rfl, own5, O5⟩;obtain ⟨A5, c5, rfl, -, -, -, -⟩ := own_row own5
         replace own5 := own_from own5 (show wr.heap.size ≤ wz.heap.size from OW.size)
         have OS := O5;have OWn := OW.trans OS;refine kOut hK (OWn) (h := ?_);clear hK K;exact HST5_13 w1 c5 gx A5 ⟨OWn, own5, OS.blk BL13 (by simp), GE13⟩
        -- behind all of the crowd
        intro wz c5 gx A5 ⟨OW, own5, BL13, GE13⟩;refine tst (i := 14) fun K hK => ?_;refine step_append_row _ rfl (.tmp 48) (.tmp 56) 26 rfl wr.heap.size 3 i0 _ 1 8 Tryz.underlying26 hi hz0 hz1 hz2 rfl (by omega) (.slice A5 i c5) i (o.map (Value.int .i64)) (by rfl) own5 _ (some ⟨gx, 0, none⟩) 1 1 [.int .i64 x] (by rfl) (by rfl) (blk_row24 BL13) (by intro u hu; simp at hu; subst hu; rfl) (by unfold maxLen; omega) (by omega) OW.size ?_;intro V14 w14 own14 grow14 _;obtain ⟨AE, cE, rfl, -, -, -, -⟩ := own_row own14;have OW14 := OW.step (only_grown grow14) (fun i hi hl => by have := (own5.lt i (by simpa using hi)).1; omega);refine kOut hK (OW14) (h := ?_);clear hK K;refine tst (i := 15) fun K hK => ?_;go_simp;have OW15 := OW14.alloc (.cells #[.slice AE (i + 1) cE] 26);have RW15 := row_lit w14 26 #[.slice AE (i + 1) cE];have OE15 := own_only own14 ((Only.refl [] w14).alloc (.cells #[.slice AE (i + 1) cE] 26)) (by simp);generalize w14.alloc (.cells #[.slice AE (i + 1) cE] 26) = w15 at *;generalize w14.heap.size = gl at *;refine kOut hK (OW15) (h := ?_);clear hK K;refine tst (i := 16) fun K hK => ?_;refine step_append_row _ rfl (.tmp 43) (.tmp 58) 31 rfl gq 26 i1 _ 1 24 Tryz.underlying31 hi1 hy0 hy1 hy2 rfl (by omega) (.slice AZ nz cZ) nz (zs.map siC) (by rfl) (by have h1 := own_only hZ.out.row OW15 (by simp); rw [hZ.out.len, HNZ.out] at h1; exact h1) _ (some ⟨gl, 0, none⟩) 1 1 [.slice AE (i + 1) cE] (by rfl) (by rfl) RW15 (by intro u hu; simp at hu; subst hu; rfl) (by unfold maxLen; omega) (by omega) (by have := OW15.size; have := hOj.out.size; omega) ?_;intro V9 w9 hown9 hgrow9 hat9;have OG : Only (Value.slice AZ nz cZ).ownBlock.toList w15 w9 := only_grown hgrow9;refine hK.out _ _ (timed_over (by kernel_rfl) (timed_nil)) ?_;clear hK K;(try simp only [tdz]);refine tQ 17 (h := ?_);refine tdn ?_;have hR15 : Rows2 w15 gq (.slice AZ nz cZ) zs Z := hZ.out.same OW15;have hzn : zs.length = nz := by rw [hR15.len, HNZ.out]
        have HR9 : Hid (Rows2 w9 gq V9 (zs ++ [(⟨o ++ [x], AE, cE⟩ : SlI)]) (innM K out ci k o (j + 1))) := Hd (by
         refine ⟨?_, ?_, fun y hy => ?_⟩
         ·rw [List.length_append, hzn, List.map_append];have e1 : siC (⟨o ++ [x], AE, cE⟩ : SlI) = .slice AE (i + 1) cE := by unfold siC; dsimp only; rw [HOL.out]
          rw [List.map_cons, e1];exact hown9
         ·rw [HST.out, List.map_append, hR15.ls]
          rfl
         ·have h0 : w15.ownsRow gq 3 1 (siC y) y.l.length (y.l.map (Value.int .i64)) := by
           rcases List.mem_append.1 hy with hy | hy
           ·exact hR15.own y hy
           ·obtain rfl := List.mem_singleton.1 hy;have e1 : siC (⟨o ++ [x], AE, cE⟩ : SlI) = .slice AE (i + 1) cE := by unfold siC; dsimp only; rw [HOL.out]
            rw [e1];dsimp only;rw [HOL.out, List.map_append];exact own_from OE15 (by have := hOj.out.size; rw [hgq] at this; exact this)
          exact own_only h0 OG (own_two h0 (by have h1 := hR15.row; rw [hzn] at h1; exact h1) (by decide)))
        have HO9 := Hd ((hOj.out.trans OW15).step OG (fun y hy hl => by
         have h1 := hR15.row;rw [hzn] at h1;have := (h1.lt y (by simpa using hy)).1;rw [hgq] at hl;omega))
        clear hR15 hzn hown9 hgrow9 hat9 OG OW15 OE15 OW OW14 own14 RW15 hZ hOj HX0 HA0 HC0 BL13 GE13 own5;go_wp2
        go_roundw
        case rel => exact ⟨j + 1, _, by go_num, by omega, HR9, HO9⟩
        case measure => simp [intOf]; omega
       ·have hd1 : decide ((nz : Int) < (K : Int)) = false := decide_eq_false (by omega);have hj1 : (j : Int) < (nc : Int) := by omega
        have HZ9 : Hid (Rows2 wr gq (.slice AZ nz cZ) zs (midM K out ci (k + 1))) := Hd (by rw [← HIE1.out (.inr hlz)]; exact hZ.out);clear hZ;go_wp2
        go_roundw
        case rel => exact ⟨k + 1, zs, by go_num, by omega, HZ9, hOj⟩
        case measure => simp [intOf]; omega
      ·have hd1 : decide ((j : Int) < (nc : Int)) = false := decide_eq_false (by omega);have HZ9 : Hid (Rows2 wr gq (.slice AZ nz cZ) zs (midM K out ci (k + 1))) := Hd (by rw [← HIE1.out (.inl (by rw [HNC.out]; omega))]; exact hZ.out);clear hZ;go_wp2
       go_roundw
       case rel => exact ⟨k + 1, zs, by go_num, by omega, HZ9, hOj⟩
       case measure => simp [intOf]; omega
    ·obtain rfl : k = no := by omega
     have HX9 : Hid (Rows2 wr wo.heap.size u8 zs (allM K (C.take (i + 1)))) := Hd (by
      have h1 := hZ.out;rw [HAS.out k (by rw [HNO.out]; exact Nat.le_refl _)] at h1;exact ⟨own_from h1.row (by rw [← hgq]; exact hO.out.size), h1.ls, fun x hx => own_from (h1.own x hx) (by rw [← hgq]; exact hO.out.size)⟩)
     have HO9 := Hd (hO.out.trans hOk.out);clear hZ hOk hX hO;go_wp2
     go_roundw
     case rel => exact ⟨i + 1, zs, by go_num, by omega, HX9, HO9⟩
     case measure => simp [intOf]; omega
  ·obtain rfl : i = n := by omega
   have HE : Hid (allM K (C.take i) = R) := Hd (by rw [List.take_of_length_le (by rw [HN.out]; exact Nat.le_refl _)]; exact HDR.out);rw [HE.out] at hX;obtain ⟨AX, cX, rfl⟩ := hX.out.val;have HX9 : Hid (Rows2 wr w.heap.size (.slice AX R.length cX) ys R) := Hd ⟨own_from hX.out.row hsz3, hX.out.ls, fun x hx => own_from (hX.out.own x hx) hsz3⟩;have HO9 := Hd (HO3.out.trans hO.out);clear hX hO;go_wp2
   go_ret
   exact ⟨AX, cX, ys, ⟨rfl, HX9.out⟩, HO9.out⟩
end

end Go.Proofs.YthdofaoamljkfaaGreatDoor
namespace Go.Proofs.YthdofaoamljkfaaGreatDoor
theorem few_int {h : Hst} (hI : HInt h) : HInt (fewH h) := fun t ht x hx => by
 obtain ⟨u, hu, rfl⟩ := List.mem_map.1 ht;exact hI u (List.mem_of_mem_take hu) x (List.mem_of_mem_take hx)
open Go.RowKit
open Go.Lib hiding intOf
attribute [local go_sem ↓] Go.wp_at_zero Go.wp_at_succ
theorem ints_one24 {l : List Int} : ∀ u ∈ l.map (Value.int .i64), u.oneCell' = true := fun u hu => by
 obtain ⟨x, -, rfl⟩ := List.mem_map.1 hu
 rfl
theorem islice24 (W : World) (A : Option Addr) (n c m : Nat) (hm : m ≤ n) (hc : n ≤ c) : (Instr.slice 26 (.slice A n c) none (some (.int .i64 (m : Int))) none).run Tryz.prog W = .ok (.slice A m c) W := by
 rw [run_slice_h (P := Tryz.prog) W 26 A n c (by kernel_rfl) .i64 (m : Int) (by omega) (by omega)];have hs : (sizeOf (Tryz.prog.elem 26)).run Tryz.prog W = .ok 1 W := by kernel_rfl
 rw [hs]
 cases A <;> simp [Result.andThen, sliced, Addr.add]
end Go.Proofs.YthdofaoamljkfaaGreatDoor
