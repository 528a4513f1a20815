/- Parts. -/
import Derived.Test.YtoojabllolnhnaaDoorLaw22AllK27
import Derived.Test.YtoojabllolnhnaaDoorLaw22AllK30
import Derived.Test.YtoojabllolnhnaaDoorLaw22AllK31
set_option maxRecDepth 10000
set_option maxHeartbeats 16000000
set_option linter.unusedVariables false
set_option linter.unusedSimpArgs false
namespace Go.Proofs.YtoojabllolnhnaaDoor
open Go.RowKit
attribute [local go_sem ↓] Go.wp_at_zero Go.wp_at_succ
theorem longer_any (n b bm nn k : Nat) (l : List (Int × Int)) (D : DataW Unit) (w : World) (hn : n ≤ 12) (wf : WfE n l) (hB : Blk w b 3 (intsF n fun v => (needT n l v : Int))) (hM : w.ownsMap Tryd.prog 3 (plainElem Tryd.prog 3) bm nn D) (hD : CntMap n D (cntT n l k)) (hnn : nn ≤ 1000000000000) :
  Calls Tryd.prog 25 #[.map (some bm), .slice (some ⟨b, 0, none⟩) n n] w fun e w' => ∃ (nn' : Nat) (D' : DataW Unit), (e = .returned (.map (some w.heap.size)) ∧ nn' ≤ 12 * nn ∧ w'.ownsMap Tryd.prog 3 (plainElem Tryd.prog 3) w.heap.size nn' D' ∧ CntMap n D' (cntT n l (k + 1))) ∧ Only [] w w' := by
 have HB := Hd hB;have HM := Hd hM;have HD := Hd hD;have HWF := Hd wf;have hmm := @run_makeMap Tryd.prog;have h12 := pow12 hn;have hbm : Hid (bm < w.heap.size) := Hd (ownsMap_blt hM);have hbb : Hid (b < w.heap.size) := Hd hB.lt;clear hB hM hD wf;go_enter Tryd.func25, Tryd.ntmps25;go_upto_region 2 with (fail)
 have HO1 := Hd ((Only.refl [] w).alloc (.map #[] 0));have HN1 := Hd (World.ownsMap_made (H := Unit) w Tryd.prog 3 (plainElem Tryd.prog 3));have HM1 := Hd (ownsMap_only HM.out HO1.out (by simp));clear hmm;generalize (w.alloc (.map #[] 0)) = w1 at *;obtain ⟨g, hg⟩ : ∃ g, g = w.heap.size := ⟨_, rfl⟩;rw [← hg] at HN1 hbm hbb ⊢;have HG := Hd hg;clear hg;go_wp2_with (at_range; refine wpList_range_own _ rfl _ 49 rfl 3 3 law_int Tryd.underlying49 (plainElem Tryd.prog 3) bm nn D rfl HM1.out ?_; intro w0 hrg0 hg0 hs0)
 go_frame
 have O0 := Only.of_grown (S := []) hg0 (fun x hx => by cases hx);have HO0 := Hd (HO1.out.trans O0);have HN0 := Hd (ownsMap_only HN1.out O0 (by simp));have HR0 := Hd hrg0;have hsz0 : Maps.size D ≤ nn := HM1.out.size_le;obtain ⟨r, hr⟩ : ∃ r, r = w1.heap.size := ⟨_, rfl⟩;rw [← hr] at HR0 ⊢;have hgr : Hid (g < r) := Hd (by have := ownsMap_blt HN1.out; omega);clear hrg0 hg0 hs0 hr O0 HM1 HN1 HO1 HM
 go_loopw [13] (fun _ wr => ∃ (left : Lit → Bool) (cnt : Nat) (P : List Nat) (nn2 : Nat) (D2 : DataW Unit), Hid (wr.ranges Tryd.prog 3 (plainElem Tryd.prog 3) bm r nn D left cnt) ∧ Hid (MetI n D left P) ∧ P.length + cnt ≤ nn ∧ Hid (wr.ownsMap Tryd.prog 3 (plainElem Tryd.prog 3) g nn2 D2) ∧ nn2 ≤ 12 * P.length ∧ Hid (CntMap n D2 (totT n l k P)) ∧ Hid (Only [] w wr)) (fun _ wr => wr.rangeLeft bm r)
 case atStart => exact ⟨_, _, [], 0, _, HR0, Hd MetI.start, by simpa using hsz0, HN0, by omega, Hd (CntMap.empty n), HO0⟩
 case round =>
  obtain ⟨left, cnt, P, nn2, D2, hrg, hmet, hcs, hN, hn2, hC, hO⟩ := hrel;clear HR0 HO0 HN0 hsz0;go_wp2_with (at_next; refine wpList_next_ranges_ii _ rfl _ rfl 3 3 .i64 .i64 law_int Tryd.underlying3 Tryd.underlying3 bm r nn D left cnt rfl hrg.out ?_ ?_)
  ·intro hc0 hl0;have HEND : Hid (CntMap n D2 (cntT n l (k + 1))) := Hd (hC.out.congr fun M hM => tot_all HWF.out k hmet.out.nd (fun M' hM' => hmet.out.all HD.out hl0 M' (cnt_lt hM') hM') M);clear hrg hmet hC HD hl0;go_wp2
   go_ret
   exact ⟨nn2, D2, ⟨by rw [← HG.out]; rfl, by omega, by rw [← HG.out]; exact hN.out, HEND.out⟩, hO.out⟩
  ·intro x c w2 cnt2 hwx hwc hlk hat hrg2 hlt hg2 hs2 hen;obtain ⟨M, rfl, hM, hP⟩ := hmet.out.key HD.out hlk;have hcv : c = ((capT (cntT n l k M) : Nat) : Int) := by
    have h1 := (hat (.lit (.int .i64 0))).symm.trans (HD.out.at_ M hM);injection h1 with h1;injection h1
   have hmet2 := Hd (hmet.out.step hM hP);have O2 : Only [r] wr w2 := Only.of_grown hg2 (fun x hx _ => by cases hx; simp);have HRG2 := Hd hrg2;have HO2 := Hd (hO.out.step O2 (fun x hx hl => by simp at hx; have := hgr.out; have := HG.out; omega));have HN2 := Hd (ownsMap_only hN.out O2 (by have := hgr.out; simp; omega));have HLE := Hd (hrg.out.left_eq);obtain ⟨ck, hck⟩ : ∃ ck, ck = cntT n l k M := ⟨_, rfl⟩;rw [← hck] at hcv;have HCK := Hd hck;have HLK := Hd hlk;have HTS : Hid (∀ M', totT n l k (P ++ [M]) M' = totT n l k P M' + ck * gTo n l n M M') := Hd (fun M' => by unfold totT; rw [List.map_append, List.sum_append, hck]; simp);obtain ⟨cc, hcc⟩ : ∃ cc, cc = capT ck := ⟨_, rfl⟩;rw [← hcc] at hcv;have HCC := Hd hcc;have hcl : cc ≤ 1000000 := by rw [hcc]; exact cap_le _
   subst hcv;clear hs2 hmet O2 hrg hrg2 hO hat hg2 hlk hN hck hwx hwc hcc HD;have hM0 : M < 4096 := by omega
   go_wp2_with fail
   clear hen;have HMP : M ∉ P := hP
   go_loopw [20] (fun jv wr => ∃ (j nn3 : Nat) (D3 : DataW Unit), jv = .int .i64 (j : Int) ∧ j ≤ n ∧ Hid (wr.ranges Tryd.prog 3 (plainElem Tryd.prog 3) bm r nn D (fun z => left z && !z.sameKey (kI M)) cnt2) ∧ Hid (wr.ownsMap Tryd.prog 3 (plainElem Tryd.prog 3) g nn3 D3) ∧ nn3 ≤ 12 * P.length + j ∧ Hid (CntMap n D3 fun M' => totT n l k P M' + ck * gTo n l j M M') ∧ Hid (Only [] w wr)) (fun jv _ => n - (intOf jv).toNat)
   case atStart => exact ⟨0, nn2, D2, rfl, by omega, HRG2, HN2, by omega, Hd (hC.out.congr fun M' _ => by simp [gTo]), HO2⟩
   case round =>
    obtain ⟨j, nn3, D3, rfl, hj, hrg, hN, hn3, hC3, hO⟩ := hrel;clear HRG2 HN2 hC HO2
    by_cases hlt2 : j < n
    ·have HB3 := Hd (hO.out.blk HB.out (by simp));have k0 := (HB3.out.at_ j).trans (intsF_at _ hlt2);have lb := HB3.out.lt;have h01 : (j : Int) < (n : Int) := by omega
     have hj0 : (0 : Int) ≤ (j : Int) := Int.natCast_nonneg _;have hwj : IntKind.i64.wrap ((j : Int) + 1) = (j : Int) + 1 := IntWalk.i64_in _ (by omega);have hdv : shrN M j ≤ M := Nat.div_le_self _ _;have hnd := need_lt n l j;have b1 : j < 64 := by omega
     have b2 : shrN M j < 4611686018427387904 := by omega
     have b3 : needT n l j < 4611686018427387904 := by omega
     have b4 : M < 4611686018427387904 := by omega
     have q1 := shr_i M j;have q2 := bits_and1_i (shrN M j) b2 w;have q3 := bits_andNot_i (needT n l j) M b3 b4 w;have HFB : Hid (freeS n l M j = (decide (oddN (shrN M j) = 0) && decide (andN (needT n l j) M = 0))) := Hd (free_bits HWF.out hn hM (v := j));have HGS : Hid (∀ M', gTo n l (j + 1) M M' = gTo n l j M M' + if freeS n l M j = true ∧ M ||| 2 ^ j = M' then 1 else 0) := Hd (fun M' => gTo_succ n l j M M');have HNF : Hid (freeS n l M j = false → CntMap n D3 fun M' => totT n l k P M' + ck * gTo n l (j + 1) M M') := Hd (fun hf => hC3.out.congr fun M' _ => by rw [HGS.out, hf, if_neg (fun h => by cases h.1), Nat.add_zero]);generalize needT n l j = x2 at *;clear HB3
     by_cases h1 : oddN (shrN M j) = 0
     ·have e1 : ((oddN (shrN M j) : Int) == 0) = true := by rw [h1]; rfl
      by_cases h2 : andN x2 M = 0
      ·have e2 : ((andN x2 M : Int) == 0) = true := by rw [h2]; rfl
       have hf : freeS n l M j = true := by rw [HFB.out, h1, h2]; rfl
       have HF := Hd hf;have hpj : powN j ≤ 4096 := Nat.le_trans (Nat.pow_le_pow_right (by decide) (by omega)) (pow12 hn);have b5 : j < 62 := by omega
       have b6 : powN j < 4611686018427387904 := by omega
       have q4 := shl_i j b5;have q5 := bits_or_i M (powN j) b4 b6 w;have hM' := orI_lt hM hlt2;have hM40 : M ||| 2 ^ j < 4096 := by omega
       obtain ⟨M', hMM⟩ : ∃ M', M' = orN M (powN j) := ⟨_, rfl⟩;rw [show M ||| 2 ^ j = M' from hMM.symm] at hM' hM40;have HMM : Hid (M' = M ||| 2 ^ j) := Hd hMM;rw [← hMM] at q5;obtain ⟨zf, hzf⟩ : ∃ zf, zf = capT (totT n l k P M' + ck * gTo n l j M M') := ⟨_, rfl⟩;have hzl : zf ≤ 1000000 := by rw [hzf]; exact cap_le _
       have HZF := Hd hzf;obtain ⟨ms, hms⟩ : ∃ ms, ms = capT (totT n l k P M' + ck * gTo n l j M M' + ck) := ⟨_, rfl⟩;have hmin : min ((zf : Int) + (cc : Int)) 1000000 = (ms : Int) := by rw [hzf, HCC.out, hms]; exact cap_min _ _
       have hmin2 : (if (1000000 : Int) < (zf : Int) + (cc : Int) then (1000000 : Int) else (zf : Int) + (cc : Int)) = (ms : Int) := by rw [← hmin]; split <;> omega
       have hml : ms ≤ 1000000 := by rw [hms]; exact cap_le _
       have HC4 := Hd (hC3.out.put (c := ck) (z := (ms : Int)) hM' (by rw [hms]));have hwz : IntKind.i64.wrap ((zf : Int) + (cc : Int)) = (zf : Int) + (cc : Int) := IntWalk.i64_in _ (by omega);clear h1 h2 hMM hzf hms hf HNF hpj HFB;go_upto_region 9 with (fail)
       clear k0 lb e1 e2 q1 q2 q3;refine rg1 [14] [] wr ?_;have OW : Only [] wr wr.drew := (Only.refl [] wr).drew;generalize wr.drew = wz at *;refine tQ 0 (h := tQ 1 (h := tQ 2 (h := tQ 3 (h := tQ 4 (h := tQ 5 (h := tQ 6 (h := tQ 7 (h := tQ 8 (h := tQ 9 (h := ?_))))))))));refine trd (i := 10) (v := ?_) 0 ?_ ?_;rotate_left
       ·(intro wq hSw; have hm := ownsMap_only hN.out hSw (by simp); obtain ⟨zc, hrun, hat, -⟩ := hm.lookup_int (t := 49) law_int Tryd.underlying49 Tryd.underlying3 (by kernel_rfl) (Maps.keyOf_int_mk Tryd.underlying3 (a := (M' : Int)) (WalkArith.wf_i64 (by omega))); have hzc : zc = (zf : Int) := (by have h1 := hat.symm.trans (hC3.out.at_ M' hM'); rw [← HZF.out] at h1; injection h1 with h1; injection h1); subst hzc; clear hm hat; clear hSw; go_simp; try with_reducible rfl)
       (try simp only [tdz]);refine tQ 11 (h := tQ 12 (h := tQ 13 (h := ?_)));refine tst (i := 14) fun K hK => ?_;refine wp_mapUpdate_own (.tmp 36) (.tmp 40) (.tmp 49) 49 rfl 3 3 law_int Tryd.underlying49 (plainElem Tryd.prog 3) g nn3 D3 rfl (ownsMap_only hN.out OW (by simp)) (by unfold maxLen; omega) _ _ _ rfl rfl (Maps.keyOf_int_mk Tryd.underlying3 (a := (M' : Int)) (WalkArith.wf_i64 (by omega))) _ [] (plainElem_int Tryd.underlying3 (WalkArith.wf_i64 (show -9223372036854775808 ≤ (ms : Int) ∧ (ms : Int) ≤ 9223372036854775807 by omega))) ?_;intro w4 hown4 hgrow4;refine hK.out _ _ (timed_over (by kernel_rfl) (timed_nil)) ?_;clear hK K;(try simp only [tdz]);refine tdn ?_;have O4 : Only [g] wz w4 := Only.of_grown hgrow4 (fun x hx _ => by cases hx; simp);have HO4 := Hd ((hO.out.trans OW).step O4 (fun x hx hl => by simp at hx; have := HG.out; omega));have HRG4 := Hd (ranges_only (ranges_only hrg.out OW (by simp) (by simp)) O4 (by have := hbm.out; simp; omega) (by have := hgr.out; simp; omega));have HN4 := Hd hown4;clear O4 hown4 hgrow4 OW hrg hN hC3 hO;go_wp2
       go_roundw
       case rel =>
        refine ⟨j + 1, nn3 + 1, _, by go_num, by omega, HRG4, HN4, by omega, Hd (HC4.out.congr fun M2 _ => ?_), HO4⟩;rw [HGS.out, HF.out, ← HMM.out]
        by_cases e : M2 = M'
        ·subst e;rw [if_pos rfl, if_pos ⟨rfl, rfl⟩, Nat.mul_add, Nat.mul_one, Nat.add_assoc]
        ·rw [if_neg e, if_neg (fun h => e h.2.symm), Nat.add_zero]
       case measure => simp [intOf]; omega
      ·have hb : ((andN x2 M : Int) == 0) = false := by simp; exact h2
       have HC4 := Hd (HNF.out (by rw [HFB.out, h1, decide_eq_false h2]; rfl));have hb2 : (andN x2 M == 0) = false := by simpa using h2
       have hb3 : decide (andN x2 M = 0) = false := decide_eq_false h2;clear h1 h2 HNF HFB HGS hC3;go_wp2
       go_roundw
       case rel => exact ⟨j + 1, nn3, D3, by go_num, by omega, hrg, hN, by omega, HC4, hO⟩
       case measure => simp [intOf]; omega
     ·have HC4 := Hd (HNF.out (by rw [HFB.out, decide_eq_false h1]; rfl));have hb : ((oddN (shrN M j) : Int) == 0) = false := by simp; exact h1
      have hb2 : (oddN (shrN M j) == 0) = false := by simpa using h1
      have hb3 : decide (oddN (shrN M j) = 0) = false := decide_eq_false h1;clear h1 HNF HFB HGS hC3;go_wp2
      go_roundw
      case rel => exact ⟨j + 1, nn3, D3, by go_num, by omega, hrg, hN, by omega, HC4, hO⟩
      case measure => simp [intOf]; omega
    ·have hjn : j = n := by omega
     subst hjn;have hd2 : decide ((j : Int) < (j : Int)) = false := by simp
     have HC5 := Hd (hC3.out.congr fun M' _ => (HTS.out M').symm);have HL8 := Hd (hrg.out.left_eq);clear hC3;go_wp2
     go_roundw
     case rel => first | exact ⟨_, cnt2, P ++ [M], nn3, D3, hrg, hmet2, by simp; omega, hN, by simp; omega, HC5, hO⟩ | exact ⟨_, ⟨_, cnt2, P ++ [M], nn3, D3, hrg, hmet2, by simp; omega, hN, by simp; omega, HC5, hO⟩, rfl⟩
     case measure => rw [HL8.out, HLE.out]; exact hlt
end Go.Proofs.YtoojabllolnhnaaDoor
