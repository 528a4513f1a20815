/- Parts. -/
import Derived.Test.YtojpohmijlkagaaDoorLaw43AllK46
import Derived.Lib.MinMax
import Derived.Test.YtojpohmijlkagaaDoorLaw43AllK43
set_option maxRecDepth 10000
set_option maxHeartbeats 16000000
set_option linter.unusedVariables false
set_option linter.unusedSimpArgs false
namespace Go.Proofs.YtojpohmijlkagaaDoor
open Go.RowKit
open Go.Lib hiding intOf
attribute [local go_sem ↓] Go.wp_at_zero Go.wp_at_succ
theorem min_slice43 (W : World) (A : Option Addr) (n c m : Nat) (hm : m ≤ n) (hc : n ≤ c) : (Instr.slice 27 (.slice A n c) none (some (.int .i64 (m : Int))) none).run Tryd.prog W = .ok (.slice A m c) W := by
 rw [run_slice_h (P := Tryd.prog) W 27 A n c (by kernel_rfl) .i64 (m : Int) (by omega) (by omega)];have hs : (sizeOf (Tryd.prog.elem 27)).run Tryd.prog W = .ok 3 W := by kernel_rfl
 rw [hs]
 cases A <;> simp [Result.andThen, sliced, Addr.add]
set_option maxRecDepth 100000 in
theorem scriptPrints_walk (A : Option Addr) (n c B : Nat) (l : List Cmd) (w : World) (hg : Row w B A (cmdC l)) (hn : l.length = n) (hc : n ≤ c) (hN : n ≤ 9223372036854775807) (hb : ∀ x ∈ l, -9223372036854775808 ≤ x.n ∧ x.n ≤ 9223372036854775807) (hT : UTabs w) (hM : MLen w) (hS : Scrs w) :
  Calls Tryd.prog 4 #[.slice A n c] w fun e w' => e = .returned (.bool true) ∧ Only [] w w' := by
 obtain ⟨m, hm⟩ : ∃ m, m = min n 210 := ⟨_, rfl⟩;have hmn : m ≤ n := by omega
 have hm2 : m ≤ 210 := by omega
 obtain ⟨L, hL⟩ : ∃ L, L = l.take m := ⟨_, rfl⟩;have HLL : Hid (L.length = m) := Hd (by rw [hL, List.length_take]; omega);have HLB : Hid (∀ x ∈ L, -9223372036854775808 ≤ x.n ∧ x.n ≤ 9223372036854775807) := Hd (fun x hx => hb x (by rw [hL] at hx; exact List.mem_of_mem_take hx));have HROW : Hid (Row w B A (cmdC L)) := Hd (by
  have h1 := hg.take (m * 3);have h2 : (cmdC l).take (m * 3) = cmdC L := by
   rw [hL];have h3 : cmdC l = cmdC (l.take m) ++ cmdC (l.drop m) := by
    unfold cmdC;rw [← List.flatMap_append, List.take_append_drop]
   rw [h3, List.take_append_of_le_length (by rw [cmdC_len, List.length_take]; omega), List.take_of_length_le (by rw [cmdC_len, List.length_take]; omega)]
  rwa [h2] at h1)
 have HTL : Hid (L.take 210 = L) := Hd (List.take_of_length_le (by rw [HLL.out]; exact hm2));have HGV := Hd (fun w' (O : Only [] w w') => give43_any A m c B L w' (HROW.out.only O (by simp)) HLL.out (by omega));rw [HTL.out, show min m 210 = m by omega] at HGV;have HSL := Hd (fun W => min_slice43 W A n c m hmn hc);have hmin : min (n : Int) 210 = (m : Int) := by omega

 have HW := Hd (fun w' (hO : Only [] w w') => works43_any w' (hT.only hO) (hM.only hO) (hS.only hO));have HSC := Hd hS;clear hT hM hS hb hn hg hL hm;go_enter Tryd.func4, Tryd.ntmps4;have hsl := HSL.out;go_wp2_with fail
 clear hsl;refine (HGV.out _ (Only.refl _ _)).mono ?_;rintro e w1 ⟨V1, ⟨rfl, hown⟩, O1⟩;obtain ⟨A1, c1, rfl, hc1, -, -, hrw⟩ := own_row hown;have HO1 := Hd O1;have HP := Hd (sprint43_any A1 m c1 _ L w1 (HSC.out.only O1) hrw HLL.out (by omega) HLB.out);clear O1 hown hrw;obtain ⟨⟨tx, te⟩, hpr⟩ : ∃ r, printC L = r := ⟨_, rfl⟩;rw [hpr] at HP;dsimp only at HP;go_wp2_with fail
 refine (HP.out).mono ?_;rintro e w2 ⟨rfl, O2⟩;have HO2 := Hd (HO1.out.trans O2);have HQ := Hd (rprint43_any A m c B L w2 (HROW.out.only HO2.out (by simp)) HLL.out (by omega) HLB.out);rw [hpr] at HQ;dsimp only at HQ;clear O2 HO1 HP hpr;go_wp2_with fail
 refine (HQ.out).mono ?_;rintro e w3 ⟨rfl, O3⟩;have HO3 := Hd (HO2.out.trans O3);clear O3 HO2 HQ;go_wp2_with fail
 go_loopw [7] (fun iv wr => ∃ k : Nat, iv = .int .i64 k ∧ k ≤ m ∧ Hid (Only [] w wr)) (fun iv _ => m - (intOf iv).toNat)
 case atStart => exact ⟨0, rfl, by omega, HO3⟩
 case round =>
  obtain ⟨k, rfl, hk, hO⟩ := hrel;have hk0 : (0 : Int) ≤ (k : Int) := Int.natCast_nonneg _
  by_cases hlt : k < m
  ·have h01 : (k : Int) < (m : Int) := by omega
   have hwk : IntKind.i64.wrap ((k : Int) + 1) = (k : Int) + 1 := IntWalk.i64_in _ (by omega);obtain ⟨⟨xr, xk, xn⟩, hx⟩ : ∃ x, L[k]? = some x := ⟨_, List.getElem?_eq_getElem (by rw [HLL.out]; exact hlt)⟩;obtain ⟨b, off, rfl, -, hbw, a0, a1, a2⟩ := row_cmd (HROW.out.only hO.out (by simp)) hx;dsimp only at a0 a1 a2;have HX := Hd hx;have HA0 := Hd a0;have HA1 := Hd a1;have HA2 := Hd a2;clear hx a0 a1 a2;go_wp2_with fail
   refine rg1 [] [] wr ?_;have OW : Only [] wr wr.drew := (Only.refl [] wr).drew;generalize wr.drew = wz at *;refine tQ 0 (h := tQ 2 (h := tQ 6 (h := tQ 7 (h := tQ 8 (h := ?_)))));refine trd (i := 9) (v := ?_) 0 ?_ ?_;rotate_left
   ·(intro wq hSw; have y0 := (hSw.cell (p := ⟨b, off + k * 3, none⟩) hbw (by simp)).trans HA0.out; have y1 := (hSw.cell (p := ⟨b, off + k * 3 + 1, none⟩) hbw (by simp)).trans HA1.out; have y2 := (hSw.cell (p := ⟨b, off + k * 3 + 2, none⟩) hbw (by simp)).trans HA2.out; clear hSw; go_simp; try with_reducible rfl)
   (try simp only [tdz]);refine tst (i := 1) fun K hK => ?_;go_simp;refine (HGV.out wz (hO.out.trans OW)).mono ?_;rintro e wa ⟨V4, ⟨rfl, own4⟩, Oa⟩;obtain ⟨A4, c4, rfl, -, -, -, R4⟩ := own_row own4;have OWa := OW.trans Oa;obtain ⟨bG, offG, rfl, -, hbG, g0, g1, g2⟩ := row_cmd R4 HX.out;dsimp only at g0 g1 g2;refine kOut hK (OWa) (h := ?_);clear hK K;refine tQ 3 (h := ?_);refine tst (i := 4) fun K hK => ?_;go_simp;skip;refine kOut hK (OWa) (h := ?_);clear hK K;refine tst (i := 5) fun K hK => ?_;go_simp;clear g0 g1 g2 R4 own4 Oa;refine (smay_any xr xk xn wa (HSC.out.only (hO.out.trans OWa))).mono ?_;rintro e wb ⟨rfl, Ob⟩;have OWb := OWa.trans Ob;refine kOut hK (OWb) (h := ?_);clear hK K;refine tst (i := 10) fun K hK => ?_;go_simp;refine (rmay43_any xr xk xn wb).mono ?_;rintro e wd ⟨rfl, Od⟩;have OWd := OWb.trans Od;refine kOut hK (OWd) (h := ?_);clear hK K;refine tQ 11 (h := ?_);refine tdn ?_;have HO4 := Hd (hO.out.trans OWd)

   clear OW OWa OWb OWd Ob Od hO HA0 HA1 HA2;go_wp2
   go_roundw
   case rel => exact ⟨k + 1, by go_num, by omega, HO4⟩
   case measure => simp [intOf]; omega
  ·obtain rfl : k = m := by omega
   have hd : decide ((k : Int) < (k : Int)) = false := by simp
   have hb1 : (tx.toList == tx.toList) = true := by simp
   have hb2 : (te == te) = true := by simp
   go_wp2_with fail
   refine (HGV.out _ hO.out).mono ?_;rintro e w4 ⟨V4, ⟨rfl, hown⟩, O4⟩;obtain ⟨A4, c4, rfl, -, -, -, hrw⟩ := own_row hown;have HO4 := Hd (hO.out.trans O4);have HST := Hd (settings_any A4 k c4 _ L w4 hrw HLL.out (by omega));have hfl : (L.filter setC).length ≤ 210 := by
    have h1 := List.length_filter_le setC L;rw [HLL.out] at h1;omega
   have HRS := Hd (fun w' (O : Only [] w w') => rsettings43_any A k c B L w' (HROW.out.only O (by simp)) HLL.out (by omega));generalize L.filter setC = F at *;clear O4 hown hrw hO;go_wp2_with fail
   refine (HST.out).mono ?_;rintro e w5 ⟨V5, ⟨rfl, hown⟩, O5⟩;obtain ⟨A5, c5, rfl, -, -, -, hrw⟩ := own_row hown;have HO5 := Hd (HO4.out.trans O5);have HBK := Hd (back43_any A5 F.length c5 _ F w5 hrw rfl (by omega));clear O5 hown hrw HST HO4;go_wp2_with fail
   refine (HBK.out).mono ?_;rintro e w6 ⟨V6, ⟨rfl, hown⟩, O6⟩;obtain ⟨A6, c6, rfl, -, -, -, hrw⟩ := own_row hown;have HO6 := Hd (HO5.out.trans O6);have HR6 := Hd hrw;clear O6 hown hrw HBK HO5;go_wp2_with fail
   refine (HRS.out _ HO6.out).mono ?_;rintro e w7 ⟨V7, ⟨rfl, hown⟩, O7⟩;obtain ⟨A7, c7, rfl, -, -, -, hrw⟩ := own_row hown;have HO7 := Hd (HO6.out.trans O7);have HSM := Hd (same43_eq A6 A7 F.length c6 c7 F w7 _ _ (HR6.out.only O7 (by simp)) hrw rfl (by omega));clear O7 hown hrw HRS HO6 HR6;go_wp2_with fail
   refine (HSM.out).mono ?_;rintro e w8 ⟨rfl, q, rfl⟩;have HO8 := Hd (HO7.out.drewN q);go_wp2_with fail
   refine (HW.out _ HO8.out).mono ?_;rintro e w9 ⟨rfl, O9⟩;have HO9 := Hd (HO8.out.trans O9);clear O9;go_wp2
   go_ret
   exact ⟨rfl, HO9.out⟩
end Go.Proofs.YtojpohmijlkagaaDoor
namespace Go.Proofs.YtojpohmijlkagaaDoor
open Go.ChangeShapes Go.WideShapes Go.ChangeAt Go.RowKit
set_option maxRecDepth 100000 in
theorem scriptPrints_lifted (os : Os) (started : os.Started) (H : Type) (enc : TypeId × Value → H) :
  ReturnsInHanded {} Tryd.checked os 4 .any (fun w args => (Rows.scriptPrintsSpec.pre enc Tryd.prog Tryd.f4 [] false w args ∧ laidMetH Tryd.prog laidL w) ∧ sizedMet enc Tryd.prog Tryd.f4 (OpenSpec.ofChange Rows.scriptPrintsSpec) false w args)
   (Rows.scriptPrintsSpec.post enc Tryd.prog Tryd.f4 false true false false) := by
 refine handed_and_shaped (C := Tryd.checked) (X := fun w _ => laidMetH Tryd.prog laidL w) (fun _ _ _ hh h => h.of_heap hh) own started (by kernel_rfl) Tryd.func4
  (ChangeSpec.witness_shaped (enc := enc) (C := Tryd.checked) (os := os) (X := fun w _ => laidMetH Tryd.prog laidL w) false (World.laidAll Tryd.prog os laidL) #[.slice none 0 0] 8 (World.laidAll_os _ _ _) (World.shaped_of_ZipB (by kernel_rfl) (by kernel_rfl)) (by kernel_rfl) (by kernel_rfl) (by kernel_rfl) (by rw [MakeChecks.laidMetH_plain _ _ _ (by kernel_rfl)]; exact laidMet_laidAll _ (by kernel_rfl) (by kernel_rfl))) ?_
 intro W base args ds gs before hval0 hW hsh _ hL _;have hval : ∀ (j : Nat) t v, Tryd.f4.params[j]? = some t → args[j]? = some v → Value.okWide Tryd.prog W .any base t v := hval0;have hW' := hW;obtain ⟨p, q, hA0, hV, rfl, hfz, hnd⟩ := hW;have hA : DataW.TrodAll enc Tryd.prog W 0 (fun _ => true) true Tryd.f4.params.toList args.toList ds p := hA0;rw [Tryd.params4] at hA hval;obtain ⟨v0, vs0, d0, ds0, p0, q0, hargs, rfl, rfl, h0, r0⟩ := trodAll_cons hA;obtain ⟨rfl, rfl, rfl⟩ := trodAll_nil r0;obtain rfl : args = #[v0] := by cases args; simp_all
 obtain ⟨rfl, rfl⟩ := trodVars_none hV;obtain ⟨A0, n0, c0, zs0, rfl, hn0, hc0, hz0, hw0, hr0⟩ := open_row_struct3i Tryd.underlying27 Tryd.underlying42 Tryd.underlying3 (by kernel_rfl) (by kernel_rfl) ⟨rfl, rfl⟩ ⟨rfl, rfl⟩ ⟨rfl, rfl⟩ (hval 0 27 v0 rfl rfl) h0;obtain ⟨l0, hl0, hm0, hb0⟩ := cmds_of n0 zs0 hz0 hw0;rw [hm0] at hr0;clear hA0;refine (scriptPrints_walk A0 n0 c0 _ l0 W hr0 hl0 hn0 (by unfold maxLen at hc0; omega) hb0 (tabs_of_laid hL) (mlen_of_shaped hsh) (scrs_of_laid hL)).mono fun e W' ⟨he, ho⟩ => ?_;subst he;exact ⟨_, rfl, law_post laidOut (by kernel_rfl) rfl (tb := 4) (by kernel_rfl) Tryd.underlying4 hW' rfl rfl rfl (ho.below (Nat.le_refl _) (by simp))⟩
theorem scriptPrints_holds : Rows.ScriptPrintsSaid :=
 OpenClaim.holds_of_wide 4 Tryd.f4 rfl rfl rfl rfl rfl rfl rfl ⟨rfl, rfl, rfl, rfl, rfl⟩ rfl rfl rfl rfl rfl (by kernel_rfl) Tryd.func4 (by kernel_rfl)
  (of_decide_eq_true (by kernel_rfl)) (by unfold Func.isWrapper; first | (rw [if_pos (by decide +kernel)]; kernel_rfl) | (rw [if_neg (by decide +kernel)]; exact ⟨rfl, rfl⟩))
  (fun os started H enc _ => scriptPrints_lifted os started H enc)
set_option maxRecDepth 100000 in
theorem scriptPrints_card : Rows.ScriptPrintsCardSaid :=
 Claim7.holds_tied_plain_at .later [] [.data, .data, .data, .data, .pinned] true (true, "4af1833e123cc950be75bb447732906c32cf3a57d84fd5af29fe21b9a52faed0") false
  scriptPrints_holds (fun _ h => by cases h) (by kernel_rfl) (fun _ h => by cases h) scriptPrints_row_tie rfl ⟨rfl, rfl⟩ (by kernel_rfl) rfl
  (fun f fn hf hfn => by
   obtain rfl : f = 4 := Option.some.inj ((show Tryd.prog.funcNamed "deemster/deemsterlaw43.ScriptPrints" = some 4 by kernel_rfl).symm.trans hf) |>.symm;obtain rfl : fn = Tryd.f4 := (Option.some.inj (Tryd.func4.symm.trans hfn)).symm;exact ⟨by kernel_rfl, fun j t ht => by
    rw [Tryd.params4] at ht;have hm := Array.mem_of_getElem? ht;have hall : ((Tryd.f4.params).all fun u => !Tryd.prog.wantsStandIn u) = true := by kernel_rfl
    rw [Tryd.params4] at hall;have := Array.all_eq_true'.1 hall t hm
    show Tryd.prog.wantsStandIn t = false
    simpa using this⟩)
  (by kernel_rfl)
end Go.Proofs.YtojpohmijlkagaaDoor
