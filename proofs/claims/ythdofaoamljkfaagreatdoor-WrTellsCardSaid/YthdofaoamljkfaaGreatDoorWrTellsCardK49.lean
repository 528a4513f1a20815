/- Parts. -/
import Derived.Test.YthdofaoamljkfaaGreatDoorWrTellsCardK48
import Derived.Handed
import Derived.Shelf.Vars
import Derived.HandedShaped
import Derived.LaidMore
import Derived.Lib.LaidIn
import Derived.Lib.LaidU8T
import Derived.Stop.Joined
import Derived.JoinedOf
set_option maxRecDepth 10000
set_option maxHeartbeats 16000000
set_option linter.unusedVariables false
set_option linter.unusedSimpArgs false
namespace Go.Proofs.YthdofaoamljkfaaGreatDoor
open Go.RowKit
open Go.Lib hiding intOf
attribute [local go_sem ↓] Go.wp_at_zero Go.wp_at_succ
theorem ints_one24 {l : List Int} : ∀ u ∈ l.map (Value.int .i64), u.oneCell' = true := fun u hu => by
 obtain ⟨x, -, rfl⟩ := List.mem_map.1 hu
 rfl
theorem islice24 (W : World) (A : Option Addr) (n c m : Nat) (hm : m ≤ n) (hc : n ≤ c) : (Instr.slice 26 (.slice A n c) none (some (.int .i64 (m : Int))) none).run Tryz.prog W = .ok (.slice A m c) W := by
 rw [run_slice_h (P := Tryz.prog) W 26 A n c (by kernel_rfl) .i64 (m : Int) (by omega) (by omega)];have hs : (sizeOf (Tryz.prog.elem 26)).run Tryz.prog W = .ok 1 W := by kernel_rfl
 rw [hs]
 cases A <;> simp [Result.andThen, sliced, Addr.add]
theorem wrTells_walk (A0 A1 A2 : Option Addr) (c0 c1 c2 : Nat) (h : Hst) (Az : Option Addr) (nz cz : Nat) (zs : List Int) (w : World) (hg : HAt w w.heap.size A0 A1 A2 h) (hm0 : h.ss.length ≤ maxLen) (hm1 : h.ks.length ≤ maxLen) (hm2 : h.l.length ≤ maxLen)
  (hz0 : ∀ z ∈ h.ss, z.size ≤ maxLen) (hz1 : ∀ z ∈ h.ks, z.size ≤ maxLen) (hI : HInt h)
  (hzr : Row w w.heap.size Az (zs.map (Value.int .i64))) (hzn : zs.length = nz) (hzc : nz ≤ cz) (hzN : nz ≤ 9223372036854775807) (hT : UTabs w) (hM : MLen w) (hV : Verbs w) :
  Calls Tryz.prog 3 #[hval A0 A1 A2 h.ss.length h.ks.length h.l.length c0 c1 c2, .slice Az nz cz] w fun e w' => e = .returned (.bool true) ∧ Only [] w w' := by
 unfold hval;have HW := Hd (fun w' (h : Only [] w w') => works24_any w' (hT.only h) (hM.only h) (hV.only h));have HF0 := Hd (fun w' (O : Only [] w w') => few_first A0 A1 A2 c0 c1 c2 h w' (hg.only O (by simp)).up hm0 hm1 hm2 hz0 hz1 (hT.only O));have HFE := Hd (few_few h);have HIG := Hd (few_int hI);have HT := Hd hT;generalize fewH h = G at *;generalize h.ss.length = n0 at *;generalize h.ks.length = n1 at *;generalize h.l.length = n2 at *;generalize G.ss.length = m0 at *;generalize G.ks.length = m1 at *;generalize G.l.length = m2 at *;clear hg hm0 hm1 hm2 hz0 hz1 hT hM hV hI;obtain ⟨m, hmd⟩ : ∃ m, m = min nz 50 := ⟨_, rfl⟩;have hmn : m ≤ nz := by omega
 have hm5 : m ≤ 50 := by omega
 have hmin : min (nz : Int) 50 = (m : Int) := by omega
 obtain ⟨L, hL⟩ : ∃ L, L = zs.take m := ⟨_, rfl⟩;have HLL : Hid (L.length = m) := Hd (by rw [hL, List.length_take]; omega);have HROW : Hid (Row w w.heap.size Az (L.map (Value.int .i64))) := Hd (by have h1 := hzr.take m; rw [← List.map_take] at h1; rw [hL]; exact h1);have HI0 := Hd (fun w' (O : Only [] w w') => ints_any Az m cz (L.map (Value.int .i64)) w' (row_up (HROW.out.only O (by simp))) (by rw [List.length_map]; exact HLL.out) ints_one24 (by omega));have hsl := fun W => islice24 W Az nz cz m hmn hzc;have HFI := Hd (fun (D0 D1 D2 : Option Addr) (f0 f1 f2 B : Nat) w' (hI : HIn w' B D0 D1 D2 m0 m1 m2 G) => few_in D0 D1 D2 m0 m1 m2 f0 f1 f2 B G w' hI HFE.out);have HRE := Hd (fun (D0 D1 D2 : Option Addr) (f0 f1 f2 B : Nat) w' (hI : HIn w' B D0 D1 D2 m0 m1 m2 G) => wrReads_any D0 D1 D2 m0 m1 m2 f0 f1 f2 B G w' hI);have HCH := Hd (fun (D0 D1 D2 : Option Addr) (f0 f1 f2 B : Nat) w' (hI : HIn w' B D0 D1 D2 m0 m1 m2 G) => wrChoices_any D0 D1 D2 m0 m1 m2 f0 f1 f2 B G w' hI HIG.out);have HIS := Hd (fun (D0 D1 D2 Am : Option Addr) (f0 f1 f2 B cm : Nat) w' (hI : HIn w' B D0 D1 D2 m0 m1 m2 G) (hr : Row w' w'.heap.size Am (L.map (Value.int .i64))) => wrIs_any D0 D1 D2 m0 m1 m2 f0 f1 f2 B G Am m cm _ L w' hI HIG.out hr HLL.out (by omega));have HRI := Hd (fun (D0 D1 D2 Am : Option Addr) (f0 f1 f2 B cm : Nat) w' (hI : HIn w' B D0 D1 D2 m0 m1 m2 G) (hr : Row w' w'.heap.size Am (L.map (Value.int .i64))) => ris24_any D0 D1 D2 m0 m1 m2 f0 f1 f2 B G Am m cm _ L w' hI hr HLL.out (by omega));have HWH := Hd (fun (D0 D1 D2 : Option Addr) (f0 f1 f2 B : Nat) w' (hI : HIn w' B D0 D1 D2 m0 m1 m2 G) => ris17_any D0 D1 D2 m0 m1 m2 f0 f1 f2 B G w' hI);have HRC := Hd (fun (hw : wholeB G = true) (D0 D1 D2 : Option Addr) (f0 f1 f2 B : Nat) w' (hI : HIn w' B D0 D1 D2 m0 m1 m2 G) => rcho24_any D0 D1 D2 m0 m1 m2 f0 f1 f2 B G w' hI (whole_may hw));have HRR := Hd (fun (hw : wholeB G = true) (D0 D1 D2 : Option Addr) (f0 f1 f2 B : Nat) w' (hI : HIn w' B D0 D1 D2 m0 m1 m2 G) => rreads24_any D0 D1 D2 m0 m1 m2 f0 f1 f2 B G w' hI (whole_may hw));have HMX := Hd (fun (hw : wholeB G = true) => aI (choL_max hw) (rds_max (whole_may hw)));have HFW := Hd (fun (hw : wholeB G = true) c (hc : c ∈ choL G) => aI (choL_few hc) (may_ops (whole_may hw)).1);have HRD : Hid (rdsH G = if wholeB G = true then rdsL G.l else []) := Hd rfl;have HCD : Hid (choH G = if wholeB G = true then choL G else []) := Hd rfl;obtain ⟨ism, hism⟩ : ∃ b, isMap G L = b := ⟨_, rfl⟩;rw [hism] at HIS HRI;obtain ⟨d, hd⟩ : ∃ d, wholeB G = d := ⟨_, rfl⟩;rw [hd] at HWH HRC HRR HMX HFW HRD HCD;unfold hval at HRE HCH HIS HRI HWH HRC HRR;clear hism hd hL hmd hzr hzn;generalize rdsH G = RH at *;generalize choH G = CH at *;have HB1 := Hd (Blk.made w 25 #[.slice A0 n0 c0, .slice A1 n1 c1, .slice A2 n2 c2]);have HO1 := Hd ((Only.refl [] w).alloc (.cells #[.slice A0 n0 c0, .slice A1 n1 c1, .slice A2 n2 c2] 25));go_enter Tryz.func3, Tryz.ntmps3;go_upto_region 1 with (fail)
 generalize (w.alloc (.cells #[.slice A0 n0 c0, .slice A1 n1 c1, .slice A2 n2 c2] 25)) = w1 at *;generalize hgg : w.heap.size = g at *;refine rg1 [8] [] w1 ?_;have OW : Only [] w1 w1.drew := (Only.refl [] w1).drew;generalize w1.drew = wz at *;refine trd (i := 0) (v := ?_) 0 ?_ ?_;rotate_left
 ·(intro wq hSw; obtain ⟨lb_H, y0, y1, y2⟩ := Bk3 (hSw.blk HB1.out (by simp)); simp at y0 y1 y2; clear hSw; go_simp; try with_reducible rfl)
 (try simp only [tdz]);refine tQ 2 (h := tQ 3 (h := tQ 4 (h := tQ 5 (h := tQ 6 (h := ?_)))));refine tst (i := 1) fun K hK => ?_;go_simp;refine (HF0.out _ (HO1.out.trans OW)).mono ?_;rintro e w2 ⟨B0, B1, B2, d0, d1, d2, ⟨rfl, hI⟩, O2⟩;have HI := Hd hI;have OW2 := OW.trans O2;clear O2 hI;refine kOut hK (OW2) (h := ?_);clear hK K;refine tst (i := 7) fun K hK => ?_;go_simp;refine (HI0.out _ (HO1.out.trans OW2)).mono ?_;rintro e w3 ⟨V3, rfl, own3, O3⟩;obtain ⟨AM, cM, rfl, -, -, -, -⟩ := own_row own3;have HM3 := Hd own3;have HI3 := Hd (HI.out.same O3);have OW3 := OW2.trans O3;have GS3 := OW2.size;have HB3 := Hd (OW3.blk HB1.out (by simp));clear O3 own3 HI;refine kOut hK (OW3) (h := ?_);clear hK K;refine tst (i := 8) fun K hK => ?_;refine wp_store_blk 25 (.tmp 2) (.tmp 10) rfl g 25 _ #[.slice B0 m0 d0, .slice B1 m1 d1, .slice B2 m2 d2] rfl rfl HB3.out rfl (by kernel_rfl) (by kernel_rfl) ?_;intro w4 b4 o4;have HB4 := Hd b4;have HO4 := Hd ((HO1.out.trans OW3).step o4 (fun i hi hl => by simp at hi; omega));have HI4 := Hd (HI3.out.past HB3.out o4 (HT.out.only HO4.out));have HM4 := Hd (own_only HM3.out o4 (fun gg hgm hm => by have := (HM3.out.lt gg hgm).1; simp at hm; have := HB1.out.lt; omega));clear b4 o4 OW3 HM3 HI3 HB3 OW2 OW;refine hK.out _ _ (timed_over (by kernel_rfl) (timed_nil)) ?_;clear hK K;(try simp only [tdz]);refine tQ 9 (h := ?_);refine tdn ?_;go_upto_region 2 with (fail)
 have RD0 := Hd fun wq (hSw : Only [] w4 wq) => Bk3 (hSw.blk HB4.out (by simp));refine rg1 [] [] w4 ?_;have OW : Only [] w4 w4.drew := (Only.refl [] w4).drew;generalize w4.drew = wz at *;refine trq 0 0 RD0 (h := trq 3 0 RD0 (h := ?_));refine tst (i := 1) fun K hK => ?_;go_simp;refine (HFI.out _ _ _ _ _ _ _ _ (HI4.out.same OW)).mono ?_;rintro e w5 ⟨D0, D1, D2, f0, f1, f2, ⟨rfl, hJ⟩, O5⟩;have HJ5 := Hd hJ;have OW5 := OW.trans O5;clear hJ O5;refine kOut hK (OW5) (h := ?_);clear hK K;refine tst (i := 2) fun K hK => ?_;go_simp;refine (HRE.out _ _ _ _ _ _ _ _ HJ5.out).mono ?_;rintro e w6 ⟨VR, ⟨rfl, hR6⟩, O6⟩;obtain ⟨AR, cR, rfl, -, -, -, -⟩ := own_row hR6;have HR6 := Hd hR6;have OW6 := OW5.trans O6;clear hR6 O6 HJ5 OW5;refine kOut hK (OW6) (h := ?_);clear hK K;refine tst (i := 4) fun K hK => ?_;go_simp;refine (HFI.out _ _ _ _ _ _ _ _ (HI4.out.same OW6)).mono ?_;rintro e w7 ⟨E0, E1, E2, k0, k1, k2, ⟨rfl, hJ⟩, O7⟩;have HJ7 := Hd hJ;have HR7 := Hd (own_only HR6.out O7 (by simp));have OW7 := OW6.trans O7;clear hJ O7 HR6 OW6;refine kOut hK (OW7) (h := ?_);clear hK K;refine tst (i := 5) fun K hK => ?_;go_simp;refine (HCH.out _ _ _ _ _ _ _ _ HJ7.out).mono ?_;rintro e w8 ⟨AC, cC, xs, ⟨rfl, hC8⟩, O8⟩;have HC8 := Hd hC8;have HR8 := Hd (own_only HR7.out O8 (by simp));have OW8 := OW7.trans O8;clear hC8 O8 HJ7 HR7 OW7;refine kOut hK (OW8) (h := ?_);clear hK K;refine tQ 6 (h := tQ 7 (h := ?_));refine tdn ?_;have HO8 := Hd (HO4.out.trans OW8);have HB8 := Hd (OW8.blk HB4.out (by simp));have HI8 := Hd (HI4.out.same OW8);have HM8 := Hd (own_only HM4.out OW8 (by simp));clear OW8 OW HO4 HB4 HI4 HM4;have hne : (ism != ism) = false := by simp
 have HIM := Hd (fun w' (O : Only [] w8 w') => ints_any AM m cM (L.map (Value.int .i64)) w' (own_row_at (own_only HM8.out O (by simp))).1 (by rw [List.length_map]; exact HLL.out) ints_one24 (by omega));go_upto_region 3 with (fail)
 have RD0 := Hd fun wq (hSw : Only [] w8 wq) => Bk3 (hSw.blk HB8.out (by simp));refine rg1 [] [] w8 ?_;have OW : Only [] w8 w8.drew := (Only.refl [] w8).drew;generalize w8.drew = wz at *;refine trq 0 0 RD0 (h := tQ 2 (h := trq 5 0 RD0 (h := tQ 6 (h := ?_))));refine tst (i := 1) fun K hK => ?_;go_simp;refine (HFI.out _ _ _ _ _ _ _ _ (HI8.out.same OW)).mono ?_;rintro e w9 ⟨D0, D1, D2, f0, f1, f2, ⟨rfl, hJ⟩, O9⟩;have HJ9 := Hd hJ;have OW9 := OW.trans O9;clear hJ O9;refine kOut hK (OW9) (h := ?_);clear hK K;refine tst (i := 3) fun K hK => ?_;go_simp;refine (HIM.out _ OW9).mono ?_;rintro e w10 ⟨VN, rfl, hN, O10⟩;obtain ⟨AN, cN, rfl, -, -, -, -⟩ := own_row hN;have HN10 := Hd hN;have HJ10 := Hd (HJ9.out.same O10);have OW10 := OW9.trans O10;clear hN O10 HJ9 OW9;refine kOut hK (OW10) (h := ?_);clear hK K;refine tst (i := 4) fun K hK => ?_;go_simp;refine (HIS.out _ _ _ _ _ _ _ _ _ _ HJ10.out (own_row_at HN10.out).1).mono ?_;rintro e w11 ⟨rfl, O11⟩;have OW11 := OW10.trans O11;clear O11 HJ10 HN10 OW10;refine kOut hK (OW11) (h := ?_);clear hK K;refine tst (i := 7) fun K hK => ?_;go_simp;refine (HRI.out _ _ _ _ _ _ _ _ _ _ (HI8.out.same OW11) (own_row_at (own_only HM8.out OW11 (by simp))).1).mono ?_;rintro e w12 ⟨rfl, O12⟩;have OW12 := OW11.trans O12;clear O12 OW11;refine kOut hK (OW12) (h := ?_);clear hK K;refine tQ 8 (h := ?_);refine tdn ?_;have HOC := Hd (HO8.out.trans OW12);have HBC := Hd (OW12.blk HB8.out (by simp));have HIC := Hd (HI8.out.same OW12);have HRX := Hd (own_only HR8.out OW12 (by simp));have HCX := Hd (HC8.out.same OW12);clear OW12 OW HO8 HB8 HI8 HM8 HR8 HC8 HIM HFI HRE HCH HIS HRI HF0 HI0 HFE HROW hsl hmin;have lB := HBC.out.lt;have y0 := HBC.out.at_ 0;have y1 := HBC.out.at_ 1;have y2 := HBC.out.at_ 2;simp at y0 y1 y2;go_wp2_with fail
 refine (HWH.out _ _ _ _ _ _ _ _ HIC.out).mono ?_;rintro e wd ⟨rfl, Od⟩;have HOD := Hd (HOC.out.trans Od);have HBD := Hd (Od.blk HBC.out (by simp));have HID := Hd (HIC.out.same Od);have HRY := Hd (own_only HRX.out Od (by simp));have HCY := Hd (HCX.out.same Od);clear Od HOC HBC HIC HRX HCX HWH lB y0 y1 y2
 cases d with
 | false =>
  obtain rfl : RH = [] := by rw [HRD.out, if_neg (by decide)]
  obtain rfl : CH = [] := by rw [HCD.out, if_neg (by decide)]
  go_wp2_with fail
  refine (HW.out _ HOD.out).mono ?_;rintro e we ⟨rfl, Oe⟩;have HOE := Hd (HOD.out.trans Oe);clear Oe;go_wp2
  go_ret
  exact ⟨rfl, HOE.out⟩
 | true =>
  have hRE : RH = rdsL G.l := by rw [HRD.out, if_pos rfl]
  have hCE : CH = choL G := by rw [HCD.out, if_pos rfl]
  obtain ⟨hcm, hrm⟩ := HMX.out (by first | rfl | trivial);have HFC := Hd (fun c (hc : c ∈ CH) => show c.length ≤ 1000 by rw [hCE] at hc; have h1 := HFW.out (by first | rfl | trivial) c hc; omega);have HRC2 := Hd (HRC.out (by first | rfl | trivial));have HRR2 := Hd (HRR.out (by first | rfl | trivial));rw [← hCE] at HRC2 hcm;rw [← hRE] at HRR2 hrm;clear HRC HRR HMX HFW HRD HCD hRE hCE;have lB := HBD.out.lt;have y0 := HBD.out.at_ 0;have y1 := HBD.out.at_ 1;have y2 := HBD.out.at_ 2;simp at y0 y1 y2;go_wp2_with fail
  refine (HRC2.out _ _ _ _ _ _ _ _ HID.out).mono ?_;rintro e we ⟨AD, cD, ys, ⟨rfl, hDe⟩, Oe⟩;have HDE := Hd hDe;have HOE := Hd (HOD.out.trans Oe);have HBE := Hd (Oe.blk HBD.out (by simp));have HIE := Hd (HID.out.same Oe);have HRE := Hd (own_only HRY.out Oe (by simp));have HCE := Hd (HCY.out.same Oe);clear Oe hDe HOD HBD HID HRY HCY HRC2 lB y0 y1 y2;have lB := HBE.out.lt;have y0 := HBE.out.at_ 0;have y1 := HBE.out.at_ 1;have y2 := HBE.out.at_ 2;simp at y0 y1 y2;go_wp2_with fail
  refine (HRR2.out _ _ _ _ _ _ _ _ HIE.out).mono ?_;rintro e wf ⟨VF, ⟨rfl, hRf⟩, Of⟩;obtain ⟨AF, cF, rfl, -, -, -, -⟩ := own_row hRf;have HRF := Hd hRf;have HOF := Hd (HOE.out.trans Of);have HRG := Hd (own_only HRE.out Of (by simp));have HCF := Hd (HCE.out.same Of);have HDF := Hd (HDE.out.same Of);clear Of hRf HOE HBE HIE HRE HCE HDE HRR2 lB y0 y1 y2;have hpn : (CH.length != CH.length) = false := by simp
  have hpm : ((CH.length : Int) != (CH.length : Int)) = false := by simp
  go_wp2_with fail
  refine (samePl_eq AR AF RH.length cR cF RH wf _ _ (own_row_at HRG.out).1 (own_row_at HRF.out).1 rfl (by omega)).mono ?_;rintro e wg ⟨rfl, qg, rfl⟩;have HOG := Hd (HOF.out.drewN qg);have HCG := Hd (HCF.out.same ((Only.refl [] wf).drewN qg));have HDG := Hd (HDF.out.same ((Only.refl [] wf).drewN qg));clear HOF HRF HRG HCF HDF;generalize wf.drewN qg = wg at *;have HCN : Hid (∀ n, CH.length = n → n ≤ 800 → True) := Hd (fun _ _ _ => trivial);obtain ⟨n, hn⟩ : ∃ n, CH.length = n := ⟨_, rfl⟩;have HN := Hd hn;rw [hn] at HCG HDG hcm hpm hpn ⊢;clear hn HCN;go_wp2_with fail
  go_loopw [8] (fun iv wr => ∃ k : Nat, iv = .int .i64 (k : Int) ∧ k ≤ n ∧ Hid (Only [] wg wr)) (fun iv _ => n - (intOf iv).toNat)
  case atStart => exact ⟨0, rfl, by omega, Hd (Only.refl [] wg)⟩
  case round =>
   obtain ⟨k, rfl, hk, hO⟩ := hrel
   by_cases hlt : k < n
   ·obtain ⟨cl, hc⟩ : ∃ cl, CH[k]? = some cl := ⟨_, List.getElem?_eq_getElem (by rw [HN.out]; exact hlt)⟩;have hcl := HFC.out cl (List.mem_of_getElem? hc);obtain ⟨b, off, Ak, ck, rfl, hb, hcc, hown⟩ := (HCG.out.same hO.out).cell (n := n) hc;obtain ⟨b2, off2, Aj, cj, rfl, hb2, hcc2, hown2⟩ := (HDG.out.same hO.out).cell (n := n) hc;have HE0 := Hd hcc;have HE1 := Hd hcc2;have HSI := Hd (fun w' (O : Only [] wr w') => sameInts_any Ak Aj cl.length cl.length ck cj cl cl w' _ _ (own_row_at (own_only hown O (by simp))).1 (own_row_at (own_only hown2 O (by simp))).1 rfl rfl (by omega) (by omega));rw [decide_eq_true (rfl : cl = cl)] at HSI;generalize cl.length = ncl at *;have h01 : (k : Int) < (n : Int) := by omega
    have hk0 : (0 : Int) ≤ (k : Int) := Int.natCast_nonneg _;have hwk : IntKind.i64.wrap ((k : Int) + 1) = (k : Int) + 1 := IntWalk.i64_in _ (by omega);clear hc hown hown2 hcc hcc2;go_upto_region 13 with (fail)
    have RD0 := Hd fun wq (hSw : Only [] wr wq) => aI ((hSw.cell (p := ⟨b, off + k, none⟩) hb (by simp)).trans HE0.out) (aI ((hSw.cell (p := ⟨b2, off2 + k, none⟩) hb2 (by simp)).trans HE1.out) (aI (Nat.lt_of_lt_of_le hb hSw.size) (Nat.lt_of_lt_of_le hb2 hSw.size)));refine rg1 [] [] wr ?_;have OW : Only [] wr wr.drew := (Only.refl [] wr).drew;generalize wr.drew = wz at *;refine tQ 0 (h := tQ 1 (h := tQ 2 (h := trq 3 0 RD0 (h := tQ 4 (h := tQ 5 (h := tQ 6 (h := trq 7 0 RD0 (h := ?_))))))));refine tst (i := 8) fun K hK => ?_;go_simp;refine (HSI.out _ OW).mono ?_;rintro e wh ⟨rfl, qh, rfl⟩;have OWH := OW.drewN qh;generalize wz.drewN qh = wh at *;refine kOut hK (OWH) (h := ?_);clear hK K;refine tQ 9 (h := ?_);refine tdn ?_;have HN9 := Hd (hO.out.trans OWH);clear OW OWH;go_wp2
    go_roundw
    case rel => exact ⟨k + 1, by go_num, by omega, HN9⟩
    case measure => simp [intOf]; omega
   ·obtain rfl : k = n := by omega
    have HOH := Hd (HOG.out.trans hO.out);go_wp2_with fail
    refine (HW.out _ HOH.out).mono ?_;rintro e we ⟨rfl, Oe⟩;have HOI := Hd (HOH.out.trans Oe);clear Oe;go_wp2
    go_ret
    exact ⟨rfl, HOI.out⟩
end Go.Proofs.YthdofaoamljkfaaGreatDoor
namespace Go.Proofs.YthdofaoamljkfaaGreatDoor
open Go.ChangeShapes Go.WideShapes Go.ChangeAt Go.RowKit
theorem handed_and_shaped {H : Type} {enc : TypeId × Value → H} {a : Assume} {C : Checked} {os : Os} {f : FuncId} {fn : Func} {s : ChangeSpec} {conds : List PathCond} {apart fresh handsOn again : Bool} {X : World → Array Value → Prop}
  (hX : ∀ (w w' : World) (args : Array Value), w.heap = w'.heap → X w args → X w' args)
  (own : ownKnob C.prog.godebug = none) (started : os.Started) (noInit : C.prog.inits.idxOf? f = none) (hfn : C.prog.funcs[f]? = some fn)
  (witness : ∃ (w : World) (tape : Tape) (i : Input), w.os = os ∧ (w.forCall tape i).Shaped C.prog ∧ i.vars = [] ∧ Input.okWide C.prog (w.forCall tape i) .any w.heap.size f i ∧
   ((s.pre enc C.prog fn conds apart (w.forCall tape i).memory i.args ∧ X (w.forCall tape i).memory i.args) ∧ sizedMet enc C.prog fn (OpenSpec.ofChange s) apart (w.forCall tape i).memory i.args) ∧ a.holds C.prog (lone (Frame.enter C.prog f i.args .normal) [] (w.forCall tape i)))
  (contract : ∀ (W : World) (base : Nat) (args : Array Value) (ds gs : List (DataW H)) (before : List MemPlace),
   (∀ (j : Nat) t v, fn.params[j]? = some t → args[j]? = some v → Value.okWide C.prog W .any base t v) →
   DataW.Whole enc C.prog fn.params.toList s.vars apart W args.toList ds gs before →
   W.ShapedOpen C.prog →
   (DataW.weightsEach C.prog (fn.params.toList ++ s.plain.varTypes C.prog) (ds ++ gs)).all (· ≤ reachBytes) = true → X W args →
   a.holds C.prog (lone (Frame.enter C.prog f args .normal) [] W) →
   Calls C.prog f args W fun e W' => ∃ v, e = .returned v ∧ s.post enc C.prog fn apart fresh handsOn again W args v W') :
  ReturnsInHanded a C os f .any (fun w args => (s.pre enc C.prog fn conds apart w args ∧ X w args) ∧ sizedMet enc C.prog fn (OpenSpec.ofChange s) apart w args) (s.post enc C.prog fn apart fresh handsOn again) := by
 refine returnsInHanded_of_calls own started noInit witness ?_;intro w tape i _ hsh _ hok hpre hholds;obtain ⟨_, _, _, fn', hfn', _, _, _, _, hval⟩ := hok;have e : fn' = fn := Option.some.inj (hfn'.symm.trans hfn);subst e;obtain ⟨⟨⟨ds, gs, before, hw, hc⟩, hx⟩, hz⟩ := hpre;have hw' := DataW.Whole.of_heap (w' := w.forCall tape i) (by rfl) hw;refine (contract (w.forCall tape i) w.heap.size i.args ds gs before hval hw' hsh (hz.weights hw) (hX _ _ _ (by rfl) hx) hholds).mono fun e W' ⟨v, he, hp⟩ => ?_;subst he;exact ChangeSpec.post_blind hp
theorem mlen_of_shaped {W : World} (h : W.ShapedOpen Tryz.prog) : MLen W :=
 Go.Proofs.cell_of_shapedOpen_int (zero := #[.int .i64 0]) (t := 3) h (of_decide_eq_true (by kernel_rfl)) (by kernel_rfl) rfl (by kernel_rfl) (by kernel_rfl) Tryz.underlying3
def laidL : List (String × DataW Unit) := [("unicode/utf8.acceptRanges", Rows.laid_unicode_utf8_acceptRanges), ("deemster/event.verbs", Rows.laid_deemster_event_verbs), ("unicode/utf8.first", Rows.laid_unicode_utf8_first)]
set_option maxRecDepth 100000 in
theorem laid_accept : (Rows.laid_unicode_utf8_acceptRanges : DataW Unit) = Lib.acceptData := by rfl
set_option maxRecDepth 100000 in
theorem laid_first : Rows.laid_unicode_utf8_first = Lib.firstData := by kernel_rfl
def verbD : List (Int × List UInt8 × Bool) := [(1, [98, 101, 103, 105, 110], false), (2, [114, 101, 97, 100], true), (3, [119, 114, 105, 116, 101], true), (4, [111, 107], false), (5, [102, 97, 105, 108], false), (6, [105, 110, 102, 111], false)]
def verbW (x : Int × List UInt8 × Bool) : DataW Unit := .agg [.lit (.int .i64 x.1), .lit (.string x.2.1), .lit (.bool x.2.2)]
theorem laid_verbs : (Rows.laid_deemster_event_verbs : DataW Unit) = .agg (verbD.map verbW) := by rfl
set_option maxRecDepth 100000 in
theorem tabs_of_laid {W : World} (h : laidMetH Tryz.prog laidL W) : UTabs W := by
 rw [MakeChecks.laidMetH_plain _ _ _ (by kernel_rfl)] at h;unfold laidL at h;rw [laid_accept, laid_first] at h;exact utf8Tabs_of_readsT (U8Types.of196 Tryz.laysValid) ⟨by kernel_rfl, by kernel_rfl, by kernel_rfl, by kernel_rfl, by kernel_rfl, by kernel_rfl, by kernel_rfl⟩ (Lib.laidMet.reads h (.tail _ (.tail _ (.head _)))) (Lib.laidMet.reads h (.head _))
set_option maxRecDepth 100000 in
theorem verb_reads {W : World} {fuel : Nat} {cs : List Value} {x : Int × List UInt8 × Bool} {q : List MemPlace} (h : DataW.trod (fun _ => ()) Tryz.prog W 0 (fun _ => true) false fuel 122 cs = some (verbW x, q)) :
  cs = [.int .i64 x.1, .string ⟨x.2.1.toArray⟩, .bool x.2.2] := by
 obtain ⟨y0, y1, y2, n, hx, hl, h0, h1, h2⟩ := Go.Deep.trod_struct3 Tryz.underlying122 h;rw [show Tryz.prog.cellsOf 122 = 3 by kernel_rfl] at hl
 match cs, hl with
 | [c0, c1, c2], _ =>
  have k0 : Tryz.prog.cellsOf 3 = 1 := by kernel_rfl
  have k1 : Tryz.prog.cellsOf 9 = 1 := by kernel_rfl
  have k2 : Tryz.prog.cellsOf 4 = 1 := by kernel_rfl
  dsimp only at h0 h1 h2;rw [k0] at h0;rw [k1] at h1;rw [k2] at h2;obtain ⟨a, e0, f0, -⟩ := DataW.trod_int Tryz.underlying3 (by simpa using h0);obtain ⟨s, e1, f1, -⟩ := DataW.trod_string Tryz.underlying9 (by simpa using h1);obtain ⟨b, e2, f2⟩ := DataW.trod_bool Tryz.underlying4 (by simpa using h2);simp at e0 e1 e2;subst e0 e1 e2 f0 f1 f2;obtain ⟨x0, x1, x2⟩ := x;simp [verbW] at hx;obtain ⟨⟨rfl, rfl, rfl⟩, -⟩ := hx
  rfl
set_option maxRecDepth 100000 in
theorem verbs_of_laid {W : World} (h : laidMetH Tryz.prog laidL W) : Verbs W := by
 rw [MakeChecks.laidMetH_plain _ _ _ (by kernel_rfl)] at h;unfold laidL at h;rw [laid_verbs] at h;obtain ⟨g, t, cs, fuel, p, hg, hty, hvar, hd⟩ := Lib.laidMet.reads h (.tail _ (.head _));obtain rfl := Option.some.inj ((show Tryz.prog.globalNamed "deemster/event.verbs" = some 2 by kernel_rfl).symm.trans hg);obtain rfl := Option.some.inj ((show (Tryz.prog.globals[2]?).map (·.type) = some 152 by kernel_rfl).symm.trans hty);have key : ∀ (j : Nat) (x : Int × List UInt8 × Bool), j < 6 → verbD[j]? = some x → W.cell? ⟨2, j * 3, none⟩ = some (.int .i64 x.1) ∧ W.cell? ⟨2, j * 3 + 1, none⟩ = some (.string ⟨x.2.1.toArray⟩) ∧ W.cell? ⟨2, j * 3 + 2, none⟩ = some (.bool x.2.2) := by
  intro j x hj hx;obtain ⟨fuel', d, q, hdi, he⟩ := Lib.array_elem Tryz.underlying152 hd j hj;rw [List.getElem?_map, hx] at hdi;simp only [Option.map_some, Option.some.injEq] at hdi;subst hdi;rw [show Tryz.prog.cellsOf 122 = 3 by kernel_rfl] at he;have hcs := verb_reads he;have e0 := congrArg (·[0]?) hcs;have e1 := congrArg (·[1]?) hcs;have e2 := congrArg (·[2]?) hcs;simp only [List.getElem?_take, List.getElem?_drop] at e0 e1 e2;refine ⟨?_, ?_, ?_⟩
  ·rw [World.var?_cell hg hvar (j * 3), ← Array.getElem?_toList]
   simpa using e0
  ·rw [World.var?_cell hg hvar (j * 3 + 1), ← Array.getElem?_toList]
   simpa using e1
  ·rw [World.var?_cell hg hvar (j * 3 + 2), ← Array.getElem?_toList]
   simpa using e2
 have k0 := key 0 _ (by omega) rfl;have k1 := key 1 _ (by omega) rfl;have k2 := key 2 _ (by omega) rfl;have k3 := key 3 _ (by omega) rfl;have k4 := key 4 _ (by omega) rfl;have k5 := key 5 _ (by omega) rfl;refine ⟨World.block_lt_of_cell? W _ k0.1, fun i u hu => ?_⟩;have hi : i < 18 := by
  have := (List.getElem?_eq_some_iff.1 hu).1;exact this
 have hc : i = 0 ∨ i = 1 ∨ i = 2 ∨ i = 3 ∨ i = 4 ∨ i = 5 ∨ i = 6 ∨ i = 7 ∨ i = 8 ∨ i = 9 ∨ i = 10 ∨ i = 11 ∨ i = 12 ∨ i = 13 ∨ i = 14 ∨ i = 15 ∨ i = 16 ∨ i = 17 := by omega
 rcases hc with rfl | rfl | rfl | rfl | rfl | rfl | rfl | rfl | rfl | rfl | rfl | rfl | rfl | rfl | rfl | rfl | rfl | rfl
 ·obtain rfl := Option.some.inj hu;exact k0.1
 ·obtain rfl := Option.some.inj hu;exact k0.2.1
 ·obtain rfl := Option.some.inj hu;exact k0.2.2
 ·obtain rfl := Option.some.inj hu;exact k1.1
 ·obtain rfl := Option.some.inj hu;exact k1.2.1
 ·obtain rfl := Option.some.inj hu;exact k1.2.2
 ·obtain rfl := Option.some.inj hu;exact k2.1
 ·obtain rfl := Option.some.inj hu;exact k2.2.1
 ·obtain rfl := Option.some.inj hu;exact k2.2.2
 ·obtain rfl := Option.some.inj hu;exact k3.1
 ·obtain rfl := Option.some.inj hu;exact k3.2.1
 ·obtain rfl := Option.some.inj hu;exact k3.2.2
 ·obtain rfl := Option.some.inj hu;exact k4.1
 ·obtain rfl := Option.some.inj hu;exact k4.2.1
 ·obtain rfl := Option.some.inj hu;exact k4.2.2
 ·obtain rfl := Option.some.inj hu;exact k5.1
 ·obtain rfl := Option.some.inj hu;exact k5.2.1
 ·obtain rfl := Option.some.inj hu;exact k5.2.2
end Go.Proofs.YthdofaoamljkfaaGreatDoor
