/- Parts. -/
import Derived.Test.YtghimogdeijgdaaGreatDoorLaw17AllK46
import Derived.Handed
import Derived.Shelf.Vars
import Derived.HandedShaped
import Derived.LaidMore
import Derived.Lib.LaidIn
import Derived.Lib.LaidU8T
import Derived.Stop.Joined
import Derived.JoinedOf
import Derived.Test.YtghimogdeijgdaaGreatDoorTie
import Derived.Test.YtghimogdeijgdaaGreatDoorCards
import Derived.SevenTiedAt
import Derived.Lay
import Derived.LaidOnce
set_option maxRecDepth 10000
set_option maxHeartbeats 16000000
set_option linter.unusedVariables false
set_option linter.unusedSimpArgs false
namespace Go.Proofs.YtghimogdeijgdaaGreatDoor
open Go.RowKit
open Go.Lib hiding intOf
attribute [local go_sem ↓] Go.wp_at_zero Go.wp_at_succ
theorem wholeMakes_walk (A0 A1 A2 Ac Al : Option Addr) (c0 c1 c2 cc cl : Nat) (h : Hst) (x : Wld) (w : World) (hg : HAt w w.heap.size A0 A1 A2 h) (hm0 : h.ss.length ≤ maxLen) (hm1 : h.ks.length ≤ maxLen) (hm2 : h.l.length ≤ maxLen)
  (hz0 : ∀ z ∈ h.ss, z.size ≤ maxLen) (hz1 : ∀ z ∈ h.ks, z.size ≤ maxLen) (hI : HInt h) (hca : x.c.length ≤ cc) (hcb : cc ≤ maxLen) (hda : x.l.length ≤ cl) (hdb : cl ≤ maxLen) (hrc : Row w w.heap.size Ac (x.c.map Value.bool)) (hrl : Row w w.heap.size Al (edgeC x.l)) (hT : UTabs w) (hM : MLen w) (hV : Verbs w) :
  Calls Tryz.prog 3 #[hval A0 A1 A2 h.ss.length h.ks.length h.l.length c0 c1 c2, .agg #[.slice Ac x.c.length cc, .slice Al x.l.length cl]] w fun e w' => e = .returned (.bool true) ∧ Only [] w w' := by
 unfold hval;have HW := Hd (fun w' (h : Only [] w w') => works17_any w' (hT.only h) (hM.only h) (hV.only h));have HF0 := Hd (fun w' (O : Only [] w w') => few_first A0 A1 A2 c0 c1 c2 h w' (hg.only O (by simp)).up hm0 hm1 hm2 hz0 hz1 (hT.only O));have HFW0 := Hd (fun w' (O : Only [] w w') => fewworld_agg Ac Al _ _ cc cl _ _ x w' (hrc.only O (by simp)) (hrl.only O (by simp)) rfl rfl (Nat.le_trans hca hcb) (Nat.le_trans hda hdb) hca hda);have HFE := Hd (few_few h);have HXE := Hd (fewW_few x);have HT := Hd hT;have HXB : Hid ((fewW x).c.length ≤ 50 ∧ (fewW x).l.length ≤ 50) := Hd (by unfold fewW; dsimp only; rw [List.length_take, List.length_take]; omega);generalize fewH h = G at *;generalize fewW x = X at *;generalize h.ss.length = n0 at *;generalize h.ks.length = n1 at *;generalize h.l.length = n2 at *;generalize x.c.length = nc at *;generalize x.l.length = nl at *;generalize G.ss.length = m0 at *;generalize G.ks.length = m1 at *;generalize G.l.length = m2 at *;have HFA := Hd (fun (y : Value) w' (hy : HAgg w' m0 m1 m2 G y) => few_agg hy HFE.out);have HWA := Hd (fun (y : Value) (B : Nat) w' (hy : WAgg w' B X y) => fewworld_in B X y w' hy HXE.out);have HMK := Hd (fun (y z : Value) (Bz : Nat) w' (hy : HAgg w' m0 m1 m2 G y) (hz : WAgg w' Bz X z) => wmake_agg hy hz HXB.out.2);have HRM := Hd (fun (y z : Value) (Bz : Nat) w' (hy : HAgg w' m0 m1 m2 G y) (hz : WAgg w' Bz X z) => rmake17_agg hy hz HXB.out.2);have HIS := Hd (fun (y : Value) w' (hy : HAgg w' m0 m1 m2 G y) => wis_agg hy);have HRI := Hd (fun (y : Value) w' (hy : HAgg w' m0 m1 m2 G y) => ris17_agg hy);generalize (makeR G X).1 = K at *;generalize (makeR G X).2 = en at *;generalize wholeB G = bw at *;generalize K.ss.length = k0 at *;generalize K.ks.length = k1 at *;generalize K.l.length = k2 at *;have HSM := Hd (fun (y z : Value) w' (hy : HAgg w' k0 k1 k2 K y) (hz : HAgg w' k0 k1 k2 K z) => same10_agg hy hz);rw [eqH_refl] at HSM;clear hg hm0 hm1 hm2 hz0 hz1 hT hM hV hI hca hcb hda hdb hrc hrl;have HO1 := Hd (((Only.refl [] w).alloc (.cells #[.slice A0 n0 c0, .slice A1 n1 c1, .slice A2 n2 c2] 25)).alloc (.cells #[.slice Ac nc cc, .slice Al nl cl] 29));have HB1 := Hd ((Blk.made w 25 #[.slice A0 n0 c0, .slice A1 n1 c1, .slice A2 n2 c2]).alloc (.cells #[.slice Ac nc cc, .slice Al nl cl] 29));have HW1 := Hd (Blk.made (w.alloc (.cells #[.slice A0 n0 c0, .slice A1 n1 c1, .slice A2 n2 c2] 25)) 29 #[.slice Ac nc cc, .slice Al nl cl]);simp only [World.size_alloc] at HW1;go_enter Tryz.func3, Tryz.ntmps3;go_upto_region 1 with (fail)
 generalize ((w.alloc (.cells #[.slice A0 n0 c0, .slice A1 n1 c1, .slice A2 n2 c2] 25)).alloc (.cells #[.slice Ac nc cc, .slice Al nl cl] 29)) = w1 at *;generalize hgw : w.heap.size + 1 = gw at *;generalize hgg : w.heap.size = g at *;refine rgo (F := [⟨[], [4], fun w' => Only [] w1 w'⟩, ⟨[], [5], fun w' => Only [g] w1 w'⟩]) (timed_holds ((Only.refl [] w1).drew) (th1 ((Only.refl [g] w1).drew))) ?_;have OW : Only [] w1 w1.drew := (Only.refl [] w1).drew;generalize w1.drew = wz at *;refine trd (i := 0) (v := ?_) 0 ?_ ?_;rotate_left
 ·(intro wq hSw; obtain ⟨lb_H, y0, y1, y2⟩ := Bk3 (hSw.blk HB1.out (by simp)); simp at y0 y1 y2; clear hSw; go_simp; try with_reducible rfl)
 (try simp only [tdz]);refine trd (i := 2) (v := ?_) 1 ?_ ?_;rotate_left
 ·(intro wq hSw; obtain ⟨lb_W, x0, x1⟩ := Bk2 (hSw.blk HW1.out (by simp; omega)); simp at x0 x1; clear hSw; go_simp; try with_reducible rfl)
 (try simp only [tdz]);refine tst (i := 1) fun K hK => ?_;go_simp;refine (HF0.out _ (HO1.out.trans OW)).mono ?_;rintro e w2 ⟨B0, B1, B2, d0, d1, d2, ⟨rfl, hI⟩, O2⟩;have OW1 := OW.trans O2;clear O2;refine hK.out _ _ (timed_holds (OW1) (th1 (OW1.wide (fun i hi => by cases hi)))) ?_;clear hK K;(try simp only [tdz]);refine tst (i := 3) fun K hK => ?_;go_simp;refine (HFW0.out _ (HO1.out.trans OW1)).mono ?_;rintro e w3 ⟨yw, ⟨rfl, hwa⟩, O3⟩;obtain ⟨A3, e3, A4, e4, rfl, hw3⟩ := hwa;have OW2 := OW1.trans O3;have hI3 := hI.same O3;have hb3 := OW2.blk HB1.out (by simp);have hx3 := OW2.blk HW1.out (by simp);have HO3 := Hd (HO1.out.trans OW2);have hg2 : g ≤ w2.heap.size := by have := (HO1.out.trans OW1).size; omega
 have hw3g := hw3.low hg2;clear O3;refine hK.out _ _ (timed_holds (OW2) (th1 (OW2.wide (fun i hi => by cases hi)))) ?_;clear hK K;(try simp only [tdz]);refine tst (i := 4) fun K hK => ?_;refine wp_store_blk 25 (.tmp 2) (.tmp 10) rfl g 25 _ #[.slice B0 m0 d0, .slice B1 m1 d1, .slice B2 m2 d2] rfl rfl hb3 rfl (by kernel_rfl) (by kernel_rfl) ?_;intro w4 b4 o4;have HB4 := Hd b4;have hO4 := HO3.out.step o4 (fun i hi hl => by simp at hi; omega);have hI4 := hI3.past hb3 o4 (HT.out.only hO4);have hx4 := o4.blk hx3 (by simp; omega);have hw4 : WAt w4 g ⟨X, A3, e3, A4, e4⟩ := ⟨owb hw3g.c hb3 o4, owb hw3g.l hb3 o4⟩;have OQ := (OW2.wide (T := [g]) (fun i hi => by cases hi)).trans o4;refine hK.out _ _ (timed_over (by kernel_rfl) (th1 (OQ))) ?_;clear hK K;(try simp only [tdz]);refine tst (i := 5) fun K hK => ?_;refine wp_store_blk 29 (.tmp 3) (.tmp 12) rfl gw 29 _ #[.slice A3 X.c.length e3, .slice A4 X.l.length e4] rfl rfl hx4 rfl (by kernel_rfl) (by kernel_rfl) ?_;intro w5 b5 o5;have HW5 := Hd b5;have HO5 := Hd (hO4.step o5 (fun i hi hl => by simp at hi; omega));have HI5 := Hd (hI4.pastW hx4 o5 (HT.out.only HO5.out));have HB5 := Hd (o5.blk HB4.out (by simp; omega));have HX5 := Hd (hw4.blkS hx4 o5);refine hK.out _ _ (timed_over (by kernel_rfl) (timed_over (by kernel_rfl) (timed_nil))) ?_;clear hK K;(try simp only [tdz]);refine tdn ?_;clear OW OW1 OW2 hI hI3 hI4 hO4 hb3 hx3 hx4 hw3 hw3g hw4 o4 o5 b4 b5 HB4 HO3 OQ HB1 HW1 HO1 HF0 HFW0 hg2;have HH5 : Hid (HAgg w5 m0 m1 m2 G (.agg #[.slice B0 m0 d0, .slice B1 m1 d1, .slice B2 m2 d2])) := Hd ⟨_, B0, B1, B2, d0, d1, d2, rfl, HI5.out⟩;have HZ5 : Hid (WAgg w5 g X (.agg #[.slice A3 X.c.length e3, .slice A4 X.l.length e4])) := Hd ⟨A3, e3, A4, e4, rfl, HX5.out⟩;have hg5 : g ≤ w5.heap.size := by have := HO5.out.size; omega
 clear HI5 HX5;go_upto_region 2 with (fail)
 have RD0 := Hd fun wq (hSw : Only [] w5 wq) => aI (Bk3 (hSw.blk HB5.out (by simp))) (Bk2 (hSw.blk HW5.out (by simp)));refine rg1 [] [] w5 ?_;have OW : Only [] w5 w5.drew := (Only.refl [] w5).drew;generalize hwz : w5.drew = wz at *;clear hwz;refine trq 0 0 RD0 (h := trq 2 0 RD0 (h := ?_))
 apply cut_1_3 (fun w gv yh yw yg => (Only [] w5 w) ∧ (HAgg w m0 m1 m2 G yh) ∧ (WAgg w w5.heap.size X yw) ∧ (HAgg w k0 k1 k2 K yg) ∧ (Blk w gv 25 #[.slice none 0 0, .slice none 0 0, .slice none 0 0]) ∧ (w5.heap.size ≤ gv))
 intro HST1_3_4_8
 apply cut_1_2 (fun w gv yh yw => (Only [] w5 w) ∧ (HAgg w m0 m1 m2 G yh) ∧ (WAgg w w5.heap.size X yw) ∧ (Blk w gv 25 #[.slice none 0 0, .slice none 0 0, .slice none 0 0]) ∧ (w5.heap.size ≤ gv))
 intro HST1_3_8
 apply cut_0_3 (fun w yh yw yg => (Only [] w5 w) ∧ (HAgg w m0 m1 m2 G yh) ∧ (WAgg w w5.heap.size X yw) ∧ (HAgg w k0 k1 k2 K yg))
 intro HST1_3_4
 apply cut_1_1 (fun w gv yh => (Only [] w5 w) ∧ (HAgg w m0 m1 m2 G yh) ∧ (Blk w gv 25 #[.slice none 0 0, .slice none 0 0, .slice none 0 0]) ∧ (w5.heap.size ≤ gv))
 intro HST1_8
 apply cut_0_2 (fun w yh yw => (Only [] w5 w) ∧ (HAgg w m0 m1 m2 G yh) ∧ (WAgg w w5.heap.size X yw))
 intro HST1_3
 apply cut_1_0 (fun w gv => (Only [] w5 w) ∧ (Blk w gv 25 #[.slice none 0 0, .slice none 0 0, .slice none 0 0]) ∧ (w5.heap.size ≤ gv))
 intro HST8
 apply cut_0_1 (fun w yh => (Only [] w5 w) ∧ (HAgg w m0 m1 m2 G yh))
 intro HST1
 ·refine timed_forks (l := [1, 8]) (by kernel_rfl) (by simp) (fork_cons ⟨_, rfl, fun K hK => ?_⟩ (fork_cons ⟨_, rfl, fun K hK => ?_⟩ (fork_nil)))
  ·go_simp;refine (HFA.out _ _ (HH5.out.same OW)).mono ?_;rintro e wa ⟨yh, ⟨rfl, HYH⟩, Oa⟩;have OS := Oa;have OWn := OW.trans OS;refine kOut hK (OWn) (h := ?_);clear hK K;exact HST1 wa yh ⟨OWn, HYH⟩
  ·go_simp;obtain ⟨OS, OWn, BLn, hszn⟩ := made_go 25 (#[.slice none 0 0, .slice none 0 0, .slice none 0 0]) OW;generalize wz.alloc (.cells #[.slice none 0 0, .slice none 0 0, .slice none 0 0] 25) = wn at *;generalize wz.heap.size = gv at *;refine kOut hK (OWn) (h := ?_);clear hK K;exact HST8 wn gv ⟨OWn, BLn, hszn⟩
 ·intro wz yh ⟨OW, HYH⟩;refine timed_forks (l := [3, 8]) (by kernel_rfl) (by simp) (fork_cons ⟨_, rfl, fun K hK => ?_⟩ (fork_cons ⟨_, rfl, fun K hK => ?_⟩ (fork_nil)))
  ·go_simp;refine (HWA.out _ _ _ (HZ5.out.same OW)).mono ?_;rintro e wa ⟨yw, ⟨rfl, HYW0⟩, Oa⟩;have HYW : WAgg wa w5.heap.size X yw := by
    obtain ⟨a1, a2, a3, a4, e, hw⟩ := HYW0;exact ⟨a1, a2, a3, a4, e, hw.low OW.size⟩
   have OS := Oa;have OWn := OW.trans OS;refine kOut hK (OWn) (h := ?_);clear hK K;exact HST1_3 wa yh yw ⟨OWn, HYH.same OS, HYW⟩
  ·go_simp;obtain ⟨OS, OWn, BLn, hszn⟩ := made_go 25 (#[.slice none 0 0, .slice none 0 0, .slice none 0 0]) OW;generalize wz.alloc (.cells #[.slice none 0 0, .slice none 0 0, .slice none 0 0] 25) = wn at *;generalize wz.heap.size = gv at *;refine kOut hK (OWn) (h := ?_);clear hK K;exact HST1_8 wn gv yh ⟨OWn, HYH.same OS, BLn, hszn⟩
 ·intro wz gv ⟨OW, BL8, GE8⟩;refine tst (i := 1) fun K hK => ?_;go_simp;refine (HFA.out _ _ (HH5.out.same OW)).mono ?_;rintro e wa ⟨yh, ⟨rfl, HYH⟩, Oa⟩;have OS := Oa;have OWn := OW.trans OS;refine kOut hK (OWn) (h := ?_);clear hK K;exact HST1_8 wa gv yh ⟨OWn, HYH, OS.blk BL8 (by simp), GE8⟩
 ·intro wz yh yw ⟨OW, HYH, HYW⟩;refine timed_forks (l := [4, 8]) (by kernel_rfl) (by simp) (fork_cons ⟨_, rfl, fun K hK => ?_⟩ (fork_cons ⟨_, rfl, fun K hK => ?_⟩ (fork_nil)))
  ·go_simp;refine (HMK.out yh yw _ _ HYH HYW).mono ?_;rintro e wa ⟨yg, ⟨rfl, HYG⟩, Oa⟩;have OS := Oa;have OWn := OW.trans OS;refine kOut hK (OWn) (h := ?_);clear hK K;refine tQ 5 (h := tQ 6 (h := tQ 7 (h := ?_)));exact HST1_3_4 wa yh yw yg ⟨OWn, HYH.same OS, HYW.same OS, HYG⟩
  ·go_simp;obtain ⟨OS, OWn, BLn, hszn⟩ := made_go 25 (#[.slice none 0 0, .slice none 0 0, .slice none 0 0]) OW;generalize wz.alloc (.cells #[.slice none 0 0, .slice none 0 0, .slice none 0 0] 25) = wn at *;generalize wz.heap.size = gv at *;refine kOut hK (OWn) (h := ?_);clear hK K;exact HST1_3_8 wn gv yh yw ⟨OWn, HYH.same OS, HYW.same OS, BLn, hszn⟩
 ·intro wz gv yh ⟨OW, HYH, BL8, GE8⟩;refine tst (i := 3) fun K hK => ?_;go_simp;refine (HWA.out _ _ _ (HZ5.out.same OW)).mono ?_;rintro e wa ⟨yw, ⟨rfl, HYW0⟩, Oa⟩;have HYW : WAgg wa w5.heap.size X yw := by
   obtain ⟨a1, a2, a3, a4, e, hw⟩ := HYW0;exact ⟨a1, a2, a3, a4, e, hw.low OW.size⟩
  have OS := Oa;have OWn := OW.trans OS;refine kOut hK (OWn) (h := ?_);clear hK K;exact HST1_3_8 wa gv yh yw ⟨OWn, HYH.same OS, HYW, OS.blk BL8 (by simp), GE8⟩
 ·intro wz yh yw yg ⟨OW, HYH, HYW, HYG⟩;refine tst (i := 8) fun K hK => ?_;go_simp;obtain ⟨OS, OWn, BLn, hszn⟩ := made_go 25 (#[.slice none 0 0, .slice none 0 0, .slice none 0 0]) OW;generalize wz.alloc (.cells #[.slice none 0 0, .slice none 0 0, .slice none 0 0] 25) = wn at *;generalize wz.heap.size = gv at *;refine kOut hK (OWn) (h := ?_);clear hK K;exact HST1_3_4_8 wn gv yh yw yg ⟨OWn, HYH.same OS, HYW.same OS, HYG.same OS, BLn, hszn⟩
 ·intro wz gv yh yw ⟨OW, HYH, HYW, BL8, GE8⟩;refine tst (i := 4) fun K hK => ?_;go_simp;refine (HMK.out yh yw _ _ HYH HYW).mono ?_;rintro e wa ⟨yg, ⟨rfl, HYG⟩, Oa⟩;have OS := Oa;have OWn := OW.trans OS;refine kOut hK (OWn) (h := ?_);clear hK K;refine tQ 5 (h := tQ 6 (h := tQ 7 (h := ?_)));exact HST1_3_4_8 wa gv yh yw yg ⟨OWn, HYH.same OS, HYW.same OS, HYG, OS.blk BL8 (by simp), GE8⟩
 -- behind all of the crowd
 intro wz gv yh yw yg ⟨OW, HYH, HYW, HYG, BL8, GE8⟩;refine tst (i := 9) fun K hK => ?_;obtain ⟨BG, E0, E1, E2, q0, q1, q2, rfl, hIG⟩ := HYG;refine wp_store_blk 25 (.tmp 5) (.tmp 19) rfl gv 25 _ #[.slice E0 k0 q0, .slice E1 k1 q1, .slice E2 k2 q2] rfl rfl BL8 rfl (by kernel_rfl) (by kernel_rfl) ?_;intro w9 b9 o9;have OW9 := OW.step o9 (fun i hi hl => by simp at hi; omega);refine kOut hK (OW9) (h := ?_);clear hK K;refine tQ 10 (h := ?_);refine tdn ?_;have HG9 := Hd b9;have HY9 : Hid (HAgg w9 k0 k1 k2 K (.agg #[.slice E0 k0 q0, .slice E1 k1 q1, .slice E2 k2 q2])) := Hd ⟨_, E0, E1, E2, q0, q1, q2, rfl, hIG.past BL8 o9 (HT.out.only (HO5.out.trans OW9))⟩;have HO9 := Hd (HO5.out.trans OW9);have HB9 := Hd (OW9.blk HB5.out (by simp));have HW9 := Hd (OW9.blk HW5.out (by simp));have HH9 := Hd (HH5.out.same OW9);have HZ9 := Hd (HZ5.out.same OW9);clear HO5 HB5 HW5 HH5 HZ5;clear OW OW9 o9 b9 hIG BL8 GE8 HYH HYW HWA HMK;have lHB_ := HB9.out.lt;have y0 := HB9.out.at_ 0;have y1 := HB9.out.at_ 1;have y2 := HB9.out.at_ 2;have lHW_ := HW9.out.lt;have x0 := HW9.out.at_ 0;have x1 := HW9.out.at_ 1;simp at y0 y1 y2 x0 x1;go_wp2_with fail
 refine (HRM.out _ _ _ _ HH9.out HZ9.out).mono ?_;rintro e w10 ⟨yr, ⟨rfl, HYR⟩, O10⟩;clear lHB_ lHW_ y0 y1 y2 x0 x1;obtain ⟨BR, F0, F1, F2, p0, p1, p2, rfl, hIR⟩ := HYR;have HR10 : Hid (HAgg w10 k0 k1 k2 K (.agg #[.slice F0 k0 p0, .slice F1 k1 p1, .slice F2 k2 p2])) := Hd ⟨BR, F0, F1, F2, p0, p1, p2, rfl, hIR⟩;have HO10 := Hd (HO9.out.trans O10);have HB10 := Hd (O10.blk HB9.out (by simp));have HW10 := Hd (O10.blk HW9.out (by simp));have HH10 := Hd (HH9.out.same O10);have HZ10 := Hd (HZ9.out.same O10);have HY10 := Hd (HY9.out.same O10);have HG10 := Hd (O10.blk HG9.out (by simp));clear HO9 HB9 HW9 HH9 HZ9 HY9 HG9;clear O10 hIR HRM;go_upto_region 4 with (fail)
 have HQ11 := Hd (Blk.made w10 25 #[.slice F0 k0 p0, .slice F1 k1 p1, .slice F2 k2 p2]);have O11 : Only [] w10 (w10.alloc (.cells #[.slice F0 k0 p0, .slice F1 k1 p1, .slice F2 k2 p2] 25)) := (Only.refl [] w10).alloc _;have HO11 := Hd (HO10.out.trans O11);have HB11 := Hd (O11.blk HB10.out (by simp));have HW11 := Hd (O11.blk HW10.out (by simp));have HH11 := Hd (HH10.out.same O11);have HZ11 := Hd (HZ10.out.same O11);have HY11 := Hd (HY10.out.same O11);have HG11 := Hd (O11.blk HG10.out (by simp));have HR11 := Hd (HR10.out.same O11);clear HO10 HB10 HW10 HH10 HZ10 HY10 HG10 HR10;clear O11;generalize (w10.alloc (.cells #[.slice F0 k0 p0, .slice F1 k1 p1, .slice F2 k2 p2] 25)) = w11 at *;generalize w10.heap.size = gq at *;have qe : (en == en) = true := by simp
 have qb : (bw == bw) = true := by simp
 have RD0 := Hd fun wq (hSw : Only [] w11 wq) => aI (Bk3 (hSw.blk HB11.out (by simp))) (aI (Bk3 (hSw.blk HG11.out (by simp))) (Bk3 (hSw.blk HQ11.out (by simp))));refine rg1 [] [] w11 ?_;have OW : Only [] w11 w11.drew := (Only.refl [] w11).drew;generalize w11.drew = wz at *;refine trq 0 0 RD0 (h := trq 1 0 RD0 (h := ?_));refine tst (i := 2) fun K hK => ?_;go_simp;refine (HSM.out _ _ _ (HY11.out.same OW) (HR11.out.same OW)).mono ?_;rintro e wa ⟨rfl, Oa⟩;have OW1 := OW.trans Oa;clear Oa;refine kOut hK (OW1) (h := ?_);clear hK K;refine tQ 3 (h := tQ 4 (h := tQ 5 (h := tQ 6 (h := tQ 7 (h := tQ 8 (h := trq 9 0 RD0 (h := trq 12 0 RD0 (h := ?_))))))));refine tst (i := 10) fun K hK => ?_;go_simp;refine (HFA.out _ _ (HH11.out.same OW1)).mono ?_;rintro e wb ⟨yk, ⟨rfl, hyk⟩, Ob⟩;have OW2 := OW1.trans Ob;clear Ob;refine kOut hK (OW2) (h := ?_);clear hK K;refine tst (i := 11) fun K hK => ?_;go_simp;refine (HIS.out _ _ hyk).mono ?_;rintro e wc ⟨rfl, Oc⟩;have OW3 := OW2.trans Oc;clear Oc;refine kOut hK (OW3) (h := ?_);clear hK K;refine tst (i := 13) fun K hK => ?_;go_simp;refine (HRI.out _ _ (HH11.out.same OW3)).mono ?_;rintro e wd ⟨rfl, Od⟩;have OW4 := OW3.trans Od;clear Od;refine kOut hK (OW4) (h := ?_);clear hK K;refine tQ 14 (h := tQ 15 (h := tQ 16 (h := ?_)));refine tst (i := 17) fun K hK => ?_;go_simp;refine (HW.out _ (HO11.out.trans OW4)).mono ?_;rintro e we ⟨rfl, Oe⟩;have OW5 := OW4.trans Oe;clear Oe;refine kOut hK (OW5) (h := ?_);clear hK K;refine tQ 18 (h := tQ 19 (h := ?_));refine tdn ?_;have HZZ := Hd (HO11.out.trans OW5);go_wp2
 go_ret
 exact ⟨rfl, HZZ.out⟩
end Go.Proofs.YtghimogdeijgdaaGreatDoor
namespace Go.Proofs.YtghimogdeijgdaaGreatDoor
open Go.RowKit Go.ChangeShapes Go.WideShapes Go.ChangeAt Go.Joins Go.Deep
section
variable {H : Type} {enc : TypeId × Value → H} {P : Program} {w : World}
theorem open_world {r : Reach} {b0 : Nat} {t tb teb tvs tv ti tj : TypeId} {f0 f1 g0 g1 : Field} {v : Value} {d : DataW H} {p : List MemPlace}
  (hs : P.underlying t = some (.struct #[f0, f1])) (hC : P.cellsOf t = 2) (htb : P.underlying tb = some (.slice teb)) (heb : P.underlying teb = some .bool) (ceb : P.cellsOf teb = 1) (ctb : P.cellsOf tb = 1)
  (htv : P.underlying tvs = some (.slice tv)) (hvs : P.underlying tv = some (.struct #[g0, g1])) (cv : P.cellsOf tv = 2) (ctv : P.cellsOf tvs = 1) (hi : P.underlying ti = some (.int .i64)) (hj : P.underlying tj = some (.int .i64)) (ci : P.cellsOf ti = 1) (cj : P.cellsOf tj = 1)
  (e0 : f0.type = tb ∧ f0.offset = 0) (e1 : f1.type = tvs ∧ f1.offset = 1) (q0 : g0.type = ti ∧ g0.offset = 0) (q1 : g1.type = tj ∧ g1.offset = 1)
  (hv : Value.okWide P w r b0 t v) (h : DataW.Trod enc P w 0 (fun _ => true) true t v d p) :
  ∃ (A A' : Option Addr) (c c' : Nat) (x : Wld), v = .agg #[.slice A x.c.length c, .slice A' x.l.length c'] ∧ x.c.length ≤ c ∧ c ≤ maxLen ∧ x.l.length ≤ c' ∧ c' ≤ maxLen ∧ Row w w.heap.size A (x.c.map Value.bool) ∧ Row w w.heap.size A' (edgeC x.l) := by
 obtain ⟨cs, rfl, hsz⟩ := okWide_struct hs hv;obtain ⟨fuel, hf0⟩ := h;have bool1 : ∀ fuel' cs' x', DataW.trod enc P w 0 (fun _ => true) true fuel' teb cs' = some x' → ∃ y : Bool, True ∧ cs' = [.bool y] := fun fuel' cs' x' h => by
  obtain ⟨b, a0, -⟩ := DataW.trod_bool heb h;exact ⟨b, trivial, a0⟩
 have val1 : ∀ fuel' cs' x', DataW.trod enc P w 0 (fun _ => true) true fuel' tv cs' = some x' → ∃ y : V2, True ∧ cs' = [.int .i64 y.1, .int .i64 y.2] := fun fuel' cs' x' h => by
  obtain ⟨y0, y1, m, -, hlen, g3, g4⟩ := trod_struct2 hvs h;rw [cv] at hlen;rw [q0.1, q0.2, ci] at g3;rw [q1.1, q1.2, cj] at g4
  match cs', hlen with
  | [u0, u1], _ =>
   obtain ⟨z0, a0, -, -⟩ := DataW.trod_int hi (by simpa using g3);obtain ⟨z1, a1, -, -⟩ := DataW.trod_int hj (by simpa using g4);simp at a0 a1;subst a0 a1;exact ⟨(z0, z1), trivial, rfl⟩
 obtain ⟨xs, n, _, hxx, hl, hlen, hf⟩ := DataW.trod_struct hs hf0;rw [hC] at hl;have hcells : (Value.agg cs).cells.toList = cs.toList := by simp [Value.cells]
 rw [hcells] at hl hf
 match hcs : cs.toList, hl with
 | [c0, c1], _ =>
  rw [hcs] at hf;have h0 := hf 0 f0 rfl;have h1 := hf 1 f1 rfl;rw [e0.1, e0.2, ctb] at h0;rw [e1.1, e1.2, ctv] at h1
  match xs, hlen with
  | [y0, y1], _ =>
   obtain ⟨A0, n0, d0, z0, a0, l0, m0', hn0, hz0, r0⟩ := row_of (fun b : Bool => [Value.bool b]) 1 (fun _ => rfl) (by omega) (fun _ => True) htb ceb bool1 (by simpa using h0);obtain ⟨A1, n1, d1, z1, a1, l1, m1', hn1, hz1, r1⟩ := row_of (fun v : V2 => [Value.int .i64 v.1, Value.int .i64 v.2]) 2 (fun _ => rfl) (by omega) (fun _ => True) htv cv val1 (by simpa using h1);simp at a0 a1;subst a0 a1;have fs : ∀ l : List Bool, l.flatMap (fun b => [Value.bool b]) = l.map Value.bool := fun l => by
    induction l with
    | nil => rfl
    | cons x l ih => rw [List.flatMap_cons, ih]; rfl
   rw [fs] at r0;refine ⟨A0, A1, d0, d1, ⟨z0, z1⟩, ?_, by rw [hn0]; exact l0, m0', by rw [hn1]; exact l1, m1', r0, r1⟩;have e : cs = #[.slice A0 n0 d0, .slice A1 n1 d1] := by
    apply Array.toList_inj.1
    rw [hcs]
   dsimp only;rw [e, hn0, hn1]
end
end Go.Proofs.YtghimogdeijgdaaGreatDoor
namespace Go.Proofs.YtghimogdeijgdaaGreatDoor
open Go.ChangeShapes Go.WideShapes Go.ChangeAt Go.RowKit
theorem handed_and_shaped {H : Type} {enc : TypeId × Value → H} {a : Assume} {C : Checked} {os : Os} {f : FuncId} {fn : Func} {s : ChangeSpec} {conds : List PathCond} {apart fresh handsOn again : Bool} {X : World → Array Value → Prop}
  (hX : ∀ (w w' : World) (args : Array Value), w.heap = w'.heap → X w args → X w' args)
  (own : ownKnob C.prog.godebug = none) (started : os.Started) (noInit : C.prog.inits.idxOf? f = none) (hfn : C.prog.funcs[f]? = some fn)
  (witness : ∃ (w : World) (tape : Tape) (i : Input), w.os = os ∧ (w.forCall tape i).Shaped C.prog ∧ i.vars = [] ∧ Input.okWide C.prog (w.forCall tape i) .any w.heap.size f i ∧
   ((s.pre enc C.prog fn conds apart (w.forCall tape i).memory i.args ∧ X (w.forCall tape i).memory i.args) ∧ sizedMet enc C.prog fn (OpenSpec.ofChange s) apart (w.forCall tape i).memory i.args) ∧ a.holds C.prog (lone (Frame.enter C.prog f i.args .normal) [] (w.forCall tape i)))
  (contract : ∀ (W : World) (base : Nat) (args : Array Value) (ds gs : List (DataW H)) (before : List MemPlace),
   (∀ (j : Nat) t v, fn.params[j]? = some t → args[j]? = some v → Value.okWide C.prog W .any base t v) →
   DataW.Whole enc C.prog fn.params.toList s.vars apart W args.toList ds gs before →
   W.ShapedOpen C.prog →
   (DataW.weightsEach C.prog (fn.params.toList ++ s.plain.varTypes C.prog) (ds ++ gs)).all (· ≤ reachBytes) = true → X W args →
   a.holds C.prog (lone (Frame.enter C.prog f args .normal) [] W) →
   Calls C.prog f args W fun e W' => ∃ v, e = .returned v ∧ s.post enc C.prog fn apart fresh handsOn again W args v W') :
  ReturnsInHanded a C os f .any (fun w args => (s.pre enc C.prog fn conds apart w args ∧ X w args) ∧ sizedMet enc C.prog fn (OpenSpec.ofChange s) apart w args) (s.post enc C.prog fn apart fresh handsOn again) := by
 refine returnsInHanded_of_calls own started noInit witness ?_;intro w tape i _ hsh _ hok hpre hholds;obtain ⟨_, _, _, fn', hfn', _, _, _, _, hval⟩ := hok;have e : fn' = fn := Option.some.inj (hfn'.symm.trans hfn);subst e;obtain ⟨⟨⟨ds, gs, before, hw, hc⟩, hx⟩, hz⟩ := hpre;have hw' := DataW.Whole.of_heap (w' := w.forCall tape i) (by rfl) hw;refine (contract (w.forCall tape i) w.heap.size i.args ds gs before hval hw' hsh (hz.weights hw) (hX _ _ _ (by rfl) hx) hholds).mono fun e W' ⟨v, he, hp⟩ => ?_;subst he;exact ChangeSpec.post_blind hp
theorem mlen_of_shaped {W : World} (h : W.ShapedOpen Tryz.prog) : MLen W :=
 Go.Proofs.cell_of_shapedOpen_int (zero := #[.int .i64 0]) (t := 3) h (of_decide_eq_true (by kernel_rfl)) (by kernel_rfl) rfl (by kernel_rfl) (by kernel_rfl) Tryz.underlying3
def laidL : List (String × DataW Unit) := [("unicode/utf8.acceptRanges", Rows.laid_unicode_utf8_acceptRanges), ("deemster/event.verbs", Rows.laid_deemster_event_verbs), ("unicode/utf8.first", Rows.laid_unicode_utf8_first)]
set_option maxRecDepth 100000 in
theorem laid_accept : (Rows.laid_unicode_utf8_acceptRanges : DataW Unit) = Lib.acceptData := by rfl
set_option maxRecDepth 100000 in
theorem laid_first : Rows.laid_unicode_utf8_first = Lib.firstData := by kernel_rfl
def verbD : List (Int × List UInt8 × Bool) := [(1, [98, 101, 103, 105, 110], false), (2, [114, 101, 97, 100], true), (3, [119, 114, 105, 116, 101], true), (4, [111, 107], false), (5, [102, 97, 105, 108], false), (6, [105, 110, 102, 111], false)]
def verbW (x : Int × List UInt8 × Bool) : DataW Unit := .agg [.lit (.int .i64 x.1), .lit (.string x.2.1), .lit (.bool x.2.2)]
theorem laid_verbs : (Rows.laid_deemster_event_verbs : DataW Unit) = .agg (verbD.map verbW) := by rfl
set_option maxRecDepth 100000 in
theorem tabs_of_laid {W : World} (h : laidMetH Tryz.prog laidL W) : UTabs W := by
 rw [MakeChecks.laidMetH_plain _ _ _ (by kernel_rfl)] at h;unfold laidL at h;rw [laid_accept, laid_first] at h;exact utf8Tabs_of_readsT (U8Types.of196 Tryz.laysValid) ⟨by kernel_rfl, by kernel_rfl, by kernel_rfl, by kernel_rfl, by kernel_rfl, by kernel_rfl, by kernel_rfl⟩ (Lib.laidMet.reads h (.tail _ (.tail _ (.head _)))) (Lib.laidMet.reads h (.head _))
set_option maxRecDepth 100000 in
theorem verb_reads {W : World} {fuel : Nat} {cs : List Value} {x : Int × List UInt8 × Bool} {q : List MemPlace} (h : DataW.trod (fun _ => ()) Tryz.prog W 0 (fun _ => true) false fuel 111 cs = some (verbW x, q)) :
  cs = [.int .i64 x.1, .string ⟨x.2.1.toArray⟩, .bool x.2.2] := by
 obtain ⟨y0, y1, y2, n, hx, hl, h0, h1, h2⟩ := Go.Deep.trod_struct3 Tryz.underlying111 h;rw [show Tryz.prog.cellsOf 111 = 3 by kernel_rfl] at hl
 match cs, hl with
 | [c0, c1, c2], _ =>
  have k0 : Tryz.prog.cellsOf 3 = 1 := by kernel_rfl
  have k1 : Tryz.prog.cellsOf 9 = 1 := by kernel_rfl
  have k2 : Tryz.prog.cellsOf 4 = 1 := by kernel_rfl
  dsimp only at h0 h1 h2;rw [k0] at h0;rw [k1] at h1;rw [k2] at h2;obtain ⟨a, e0, f0, -⟩ := DataW.trod_int Tryz.underlying3 (by simpa using h0);obtain ⟨s, e1, f1, -⟩ := DataW.trod_string Tryz.underlying9 (by simpa using h1);obtain ⟨b, e2, f2⟩ := DataW.trod_bool Tryz.underlying4 (by simpa using h2);simp at e0 e1 e2;subst e0 e1 e2 f0 f1 f2;obtain ⟨x0, x1, x2⟩ := x;simp [verbW] at hx;obtain ⟨⟨rfl, rfl, rfl⟩, -⟩ := hx
  rfl
set_option maxRecDepth 100000 in
theorem verbs_of_laid {W : World} (h : laidMetH Tryz.prog laidL W) : Verbs W := by
 rw [MakeChecks.laidMetH_plain _ _ _ (by kernel_rfl)] at h;unfold laidL at h;rw [laid_verbs] at h;obtain ⟨g, t, cs, fuel, p, hg, hty, hvar, hd⟩ := Lib.laidMet.reads h (.tail _ (.head _));obtain rfl := Option.some.inj ((show Tryz.prog.globalNamed "deemster/event.verbs" = some 2 by kernel_rfl).symm.trans hg);obtain rfl := Option.some.inj ((show (Tryz.prog.globals[2]?).map (·.type) = some 143 by kernel_rfl).symm.trans hty);have key : ∀ (j : Nat) (x : Int × List UInt8 × Bool), j < 6 → verbD[j]? = some x → W.cell? ⟨2, j * 3, none⟩ = some (.int .i64 x.1) ∧ W.cell? ⟨2, j * 3 + 1, none⟩ = some (.string ⟨x.2.1.toArray⟩) ∧ W.cell? ⟨2, j * 3 + 2, none⟩ = some (.bool x.2.2) := by
  intro j x hj hx;obtain ⟨fuel', d, q, hdi, he⟩ := Lib.array_elem Tryz.underlying143 hd j hj;rw [List.getElem?_map, hx] at hdi;simp only [Option.map_some, Option.some.injEq] at hdi;subst hdi;rw [show Tryz.prog.cellsOf 111 = 3 by kernel_rfl] at he;have hcs := verb_reads he;have e0 := congrArg (·[0]?) hcs;have e1 := congrArg (·[1]?) hcs;have e2 := congrArg (·[2]?) hcs;simp only [List.getElem?_take, List.getElem?_drop] at e0 e1 e2;refine ⟨?_, ?_, ?_⟩
  ·rw [World.var?_cell hg hvar (j * 3), ← Array.getElem?_toList]
   simpa using e0
  ·rw [World.var?_cell hg hvar (j * 3 + 1), ← Array.getElem?_toList]
   simpa using e1
  ·rw [World.var?_cell hg hvar (j * 3 + 2), ← Array.getElem?_toList]
   simpa using e2
 have k0 := key 0 _ (by omega) rfl;have k1 := key 1 _ (by omega) rfl;have k2 := key 2 _ (by omega) rfl;have k3 := key 3 _ (by omega) rfl;have k4 := key 4 _ (by omega) rfl;have k5 := key 5 _ (by omega) rfl;refine ⟨World.block_lt_of_cell? W _ k0.1, fun i u hu => ?_⟩;have hi : i < 18 := by
  have := (List.getElem?_eq_some_iff.1 hu).1;exact this
 have hc : i = 0 ∨ i = 1 ∨ i = 2 ∨ i = 3 ∨ i = 4 ∨ i = 5 ∨ i = 6 ∨ i = 7 ∨ i = 8 ∨ i = 9 ∨ i = 10 ∨ i = 11 ∨ i = 12 ∨ i = 13 ∨ i = 14 ∨ i = 15 ∨ i = 16 ∨ i = 17 := by omega
 rcases hc with rfl | rfl | rfl | rfl | rfl | rfl | rfl | rfl | rfl | rfl | rfl | rfl | rfl | rfl | rfl | rfl | rfl | rfl
 ·obtain rfl := Option.some.inj hu;exact k0.1
 ·obtain rfl := Option.some.inj hu;exact k0.2.1
 ·obtain rfl := Option.some.inj hu;exact k0.2.2
 ·obtain rfl := Option.some.inj hu;exact k1.1
 ·obtain rfl := Option.some.inj hu;exact k1.2.1
 ·obtain rfl := Option.some.inj hu;exact k1.2.2
 ·obtain rfl := Option.some.inj hu;exact k2.1
 ·obtain rfl := Option.some.inj hu;exact k2.2.1
 ·obtain rfl := Option.some.inj hu;exact k2.2.2
 ·obtain rfl := Option.some.inj hu;exact k3.1
 ·obtain rfl := Option.some.inj hu;exact k3.2.1
 ·obtain rfl := Option.some.inj hu;exact k3.2.2
 ·obtain rfl := Option.some.inj hu;exact k4.1
 ·obtain rfl := Option.some.inj hu;exact k4.2.1
 ·obtain rfl := Option.some.inj hu;exact k4.2.2
 ·obtain rfl := Option.some.inj hu;exact k5.1
 ·obtain rfl := Option.some.inj hu;exact k5.2.1
 ·obtain rfl := Option.some.inj hu;exact k5.2.2
set_option maxRecDepth 100000 in
theorem wholeMakes_lifted (os : Os) (started : os.Started) (H : Type) (enc : TypeId × Value → H) :
  ReturnsInHanded {} Tryz.checked os 3 .any (fun w args => (Rows.wholeMakesSpec.pre enc Tryz.prog Tryz.f3 [] false w args ∧ laidMetH Tryz.prog laidL w) ∧ sizedMet enc Tryz.prog Tryz.f3 (OpenSpec.ofChange Rows.wholeMakesSpec) false w args)
   (Rows.wholeMakesSpec.post enc Tryz.prog Tryz.f3 false true false false) := by
 refine handed_and_shaped (C := Tryz.checked) (X := fun w _ => laidMetH Tryz.prog laidL w) (fun _ _ _ hh h => h.of_heap hh) own started (by kernel_rfl) Tryz.func3
  (ChangeSpec.witness_shaped (enc := enc) (C := Tryz.checked) (os := os) (X := fun w _ => laidMetH Tryz.prog laidL w) false (World.laidAll Tryz.prog os laidL) #[.agg #[.slice none 0 0, .slice none 0 0, .slice none 0 0], .agg #[.slice none 0 0, .slice none 0 0]] 8 (World.laidAll_os _ _ _) (World.shaped_of_ZipB (by kernel_rfl) (by kernel_rfl)) (by kernel_rfl) (by kernel_rfl) (by kernel_rfl) (by rw [MakeChecks.laidMetH_plain _ _ _ (by kernel_rfl)]; exact laidMet_laidAll _ (by kernel_rfl) (by kernel_rfl))) ?_
 intro W base args ds gs before hval0 hW hsh _ hL _;have hval : ∀ (j : Nat) t v, Tryz.f3.params[j]? = some t → args[j]? = some v → Value.okWide Tryz.prog W .any base t v := hval0;have hW' := hW;obtain ⟨p, q, hA0, hV, rfl, hfz, hnd⟩ := hW;have hA : DataW.TrodAll enc Tryz.prog W 0 (fun _ => true) true Tryz.f3.params.toList args.toList ds p := hA0;rw [Tryz.params3] at hA hval;obtain ⟨v0, vs0, d0, ds0, p0, q0, hargs, rfl, rfl, h0, r0⟩ := trodAll_cons hA;obtain ⟨v1, vs1, d1, ds1, p1, q1, rfl, rfl, rfl, h1, r1⟩ := trodAll_cons r0;obtain ⟨rfl, rfl, rfl⟩ := trodAll_nil r1;obtain rfl : args = #[v0, v1] := by cases args; simp_all
 obtain ⟨rfl, rfl⟩ := trodVars_none hV;obtain ⟨A00, A01, A02, c00, c01, c02, g0, rfl, hg0, ma0, mb0, mc0, za0, zb0, ob0⟩ := open_hist2 Tryz.underlying25 (by kernel_rfl) Tryz.underlying22 Tryz.underlying9 (by kernel_rfl) (by kernel_rfl) Tryz.underlying23 (by kernel_rfl) Tryz.underlying48 (by kernel_rfl) Tryz.underlying3 (by kernel_rfl) Tryz.underlying46 (by kernel_rfl) Tryz.underlying55 Tryz.underlying53 (by kernel_rfl) Tryz.underlying4 Tryz.underlying2 (by kernel_rfl) (by kernel_rfl) (by kernel_rfl) ⟨rfl, rfl⟩ ⟨rfl, rfl⟩ ⟨rfl, rfl⟩ ⟨rfl, rfl⟩ ⟨rfl, rfl⟩ ⟨rfl, rfl⟩ ⟨rfl, rfl⟩ ⟨rfl, rfl⟩ ⟨rfl, rfl⟩ ⟨rfl, rfl⟩ ⟨rfl, rfl⟩ (hval 0 25 v0 rfl rfl) h0;obtain ⟨A1, B1, c1, d1, x1, rfl, hca1, hcb1, hda1, hdb1, hr1, hs1⟩ := open_world Tryz.underlying29 (by kernel_rfl) Tryz.underlying26 Tryz.underlying4 (by kernel_rfl) (by kernel_rfl) Tryz.underlying27 Tryz.underlying53 (by kernel_rfl) (by kernel_rfl) Tryz.underlying3 Tryz.underlying2 (by kernel_rfl) (by kernel_rfl) ⟨rfl, rfl⟩ ⟨rfl, rfl⟩ ⟨rfl, rfl⟩ ⟨rfl, rfl⟩ (hval 1 29 v1 rfl rfl) h1;clear hA0;refine (wholeMakes_walk A00 A01 A02 A1 B1 c00 c01 c02 c1 d1 g0 x1 W hg0 ma0 mb0 mc0 za0 zb0 ob0 hca1 hcb1 hda1 hdb1 hr1 hs1 (tabs_of_laid hL) (mlen_of_shaped hsh) (verbs_of_laid hL)).mono fun e W' ⟨he, ho⟩ => ?_;subst he;exact ⟨_, rfl, law_post laidOut (by kernel_rfl) rfl (tb := 4) (by kernel_rfl) Tryz.underlying4 hW' rfl rfl rfl (ho.below (Nat.le_refl _) (by simp))⟩
theorem wholeMakes_holds : Rows.WholeMakesSaid :=
 OpenClaim.holds_of_wide 3 Tryz.f3 rfl rfl rfl rfl rfl rfl rfl ⟨rfl, rfl, rfl, rfl, rfl⟩ rfl rfl rfl rfl rfl (by kernel_rfl) Tryz.func3 (by kernel_rfl)
  (of_decide_eq_true (by kernel_rfl)) (by unfold Func.isWrapper; first | (rw [if_pos (by decide +kernel)]; kernel_rfl) | (rw [if_neg (by decide +kernel)]; exact ⟨rfl, rfl⟩))
  (fun os started H enc _ => wholeMakes_lifted os started H enc)
set_option maxRecDepth 100000 in
theorem wholeMakes_card : Rows.WholeMakesCardSaid :=
 Claim7.holds_tied_plain_at .later [] [.data, .data, .pinned] true (true, "adc7a82ffa848c2c47f71ff3fe20392339ba96b15de03643583bf3c25cade9ed") false
  wholeMakes_holds (fun _ h => by cases h) (by kernel_rfl) (fun _ h => by cases h) wholeMakes_row_tie rfl ⟨rfl, rfl⟩ (by kernel_rfl) rfl
  (fun f fn hf hfn => by
   obtain rfl : f = 3 := Option.some.inj ((show Tryz.prog.funcNamed "deemster/deemsterlaw17.WholeMakes" = some 3 by kernel_rfl).symm.trans hf) |>.symm;obtain rfl : fn = Tryz.f3 := (Option.some.inj (Tryz.func3.symm.trans hfn)).symm;exact ⟨by kernel_rfl, fun j t ht => by
    rw [Tryz.params3] at ht;have hm := Array.mem_of_getElem? ht;have hall : ((Tryz.f3.params).all fun u => !Tryz.prog.wantsStandIn u) = true := by kernel_rfl
    rw [Tryz.params3] at hall;have := Array.all_eq_true'.1 hall t hm
    show Tryz.prog.wantsStandIn t = false
    simpa using this⟩)
  (by kernel_rfl)
end Go.Proofs.YtghimogdeijgdaaGreatDoor
