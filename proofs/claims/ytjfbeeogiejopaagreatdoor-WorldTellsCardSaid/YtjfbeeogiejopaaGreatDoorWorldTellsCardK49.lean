/- WorldTells: the walk. A world that came in by value. A row's wrap that hands the walk both the laid variables and the world's shape. The table of an event's words and the tables of unicode/utf8 lie where the program's text lays them. -/
import Derived.Test.YtjfbeeogiejopaaGreatDoorWorldTellsCardK48
import Derived.Test.YtjfbeeogiejopaaGreatDoorWorldTellsCardK36
import Derived.Test.YtjfbeeogiejopaaGreatDoorWorldTellsCardK23
import Derived.Test.YtjfbeeogiejopaaGreatDoorWorldTellsCardK28
import Derived.Handed
import Derived.Shelf.Vars
import Derived.HandedShaped
import Derived.Test.YtjfbeeogiejopaaGreatDoorWorldTellsCardK6
import Derived.Test.YtjfbeeogiejopaaGreatDoorWorldTellsCardK2
import Derived.Test.YtjfbeeogiejopaaGreatDoorWorldTellsCardK3
import Derived.LaidMore
import Derived.Lib.LaidIn
import Derived.Lib.LaidU8T
import Derived.Stop.Joined
import Derived.JoinedOf
set_option maxRecDepth 10000
set_option maxHeartbeats 16000000
set_option linter.unusedVariables false
set_option linter.unusedSimpArgs false
namespace Go.Proofs.YtjfbeeogiejopaaGreatDoor
open Go.RowKit
open Go.Lib hiding intOf
attribute [local go_sem ↓] Go.wp_at_zero Go.wp_at_succ
theorem bool_at {w : World} {B p n c : Nat} {A : Option Addr} {l : List Bool} {b : Bool} (h : w.ownsRow B 4 1 (.slice A n c) n (l.map Value.bool)) (hb : l[p]? = some b) : ∃ q o, A = some ⟨q, o, none⟩ ∧ q < w.heap.size ∧ w.cell? ⟨q, o + p, none⟩ = some (.bool b) := by
 obtain ⟨q, o, rfl, -, hq, hc⟩ := (own_row_at h).1.open_ (k := p) (by rw [List.length_map]; exact (List.getElem?_eq_some_iff.1 hb).1);exact ⟨q, o, rfl, hq, hc p _ (by rw [List.getElem?_map, hb]; rfl)⟩
theorem worldTells_walk (A0 A1 A2 Ac Al : Option Addr) (c0 c1 c2 cc cl : Nat) (h : Hst) (x : Wld) (w : World) (hg : HAt w w.heap.size A0 A1 A2 h) (hm0 : h.ss.length ≤ maxLen) (hm1 : h.ks.length ≤ maxLen) (hm2 : h.l.length ≤ maxLen)
  (hz0 : ∀ z ∈ h.ss, z.size ≤ maxLen) (hz1 : ∀ z ∈ h.ks, z.size ≤ maxLen) (hI : HInt h) (hca : x.c.length ≤ cc) (hcb : cc ≤ maxLen) (hda : x.l.length ≤ cl) (hdb : cl ≤ maxLen) (hrc : Row w w.heap.size Ac (x.c.map Value.bool)) (hrl : Row w w.heap.size Al (edgeC x.l)) (hT : UTabs w) (hM : MLen w) (hV : Verbs w) :
  Calls Tryz.prog 6 #[hval A0 A1 A2 h.ss.length h.ks.length h.l.length c0 c1 c2, .agg #[.slice Ac x.c.length cc, .slice Al x.l.length cl]] w fun e w' => e = .returned (.bool true) ∧ Only [] w w' := by
 unfold hval;have HW := Hd (fun w' (h : Only [] w w') => works16_any w' (hT.only h) (hM.only h) (hV.only h));have HF0 := Hd (fun w' (O : Only [] w w') => few16_first A0 A1 A2 c0 c1 c2 h w' (hg.only O (by simp)).up hm0 hm1 hm2 hz0 hz1 (hT.only O));have HFW0 := Hd (fun w' (O : Only [] w w') => fewworld_agg Ac Al _ _ cc cl _ _ x w' (hrc.only O (by simp)) (hrl.only O (by simp)) rfl rfl (Nat.le_trans hca hcb) (Nat.le_trans hda hdb) hca hda);have HIG : HInt (few16 h) := cutH_int (few_int hI);have HBD := Hd (fun hm => few16_bd (h := h) hm);have HFE := Hd (few16_few h);have HFC := Hd (few16_cut h);have HXE := Hd (fewW_few x);have HT := Hd hT;have HXB : Hid ((fewW x).c.length ≤ 50 ∧ (fewW x).l.length ≤ 50) := Hd (by unfold fewW; dsimp only; rw [List.length_take, List.length_take]; omega);generalize few16 h = G at *;generalize fewW x = X at *;generalize h.ss.length = n0 at *;generalize h.ks.length = n1 at *;generalize h.l.length = n2 at *;generalize x.c.length = nc at *;generalize x.l.length = nl at *;generalize G.ss.length = m0 at *;generalize G.ks.length = m1 at *;generalize hgl : G.l.length = m2 at *;have HGL := Hd hgl;clear hgl;have HCM := Hd (fun (y z : Value) (Bz : Nat) w' (hy : HAgg w' m0 m1 m2 G y) (hz : WAgg w' Bz X z) => wcommits_agg hy hz HXB.out);have HTR := Hd (fun (y z : Value) (Bz : Nat) w' (hy : HAgg w' m0 m1 m2 G y) (hz : WAgg w' Bz X z) => wtries_agg hy hz HIG HXB.out);have HMW := Hd (fun (y z : Value) (Bz : Nat) w' (hy : HAgg w' m0 m1 m2 G y) (hz : WAgg w' Bz X z) => wmay_agg hy hz HXB.out);have HFA := Hd (fun (y : Value) w' (hy : HAgg w' m0 m1 m2 G y) => few16_agg m0 m1 m2 G y w' hy HFE.out HFC.out);have HWA := Hd (fun (y : Value) (B : Nat) w' (hy : WAgg w' B X y) => fewworld_in B X y w' hy HXE.out);have HRM := Hd (fun (A A' : Option Addr) (c c' Bl : Nat) (D0 D1 D2 : Option Addr) (f0 f1 f2 B : Nat) w' (hI : HIn w' B D0 D1 D2 m0 m1 m2 G) (hl : Row w' Bl A' (edgeC X.l)) => rmay16_any D0 D1 D2 A A' m0 m1 m2 X.c.length X.l.length f0 f1 f2 c c' B Bl G X w' hI hl rfl rfl (by have := HXB.out; omega));have HRC := Hd (fun (hm : mayW G X = true) (A A' : Option Addr) (c c' Bc : Nat) (D0 D1 D2 : Option Addr) (f0 f1 f2 B : Nat) w' (hI : HIn w' B D0 D1 D2 m0 m1 m2 G) (hc : Row w' Bc A (X.c.map Value.bool)) => rcommits16_any D0 D1 D2 A A' m0 m1 m2 X.c.length X.l.length f0 f1 f2 c c' B Bc G X.c w' hI hc rfl (mayW_inv hm).2.1.symm);have HRT := Hd (fun (hm : mayW G X = true) (A A' : Option Addr) (c c' Bc : Nat) (D0 D1 D2 : Option Addr) (f0 f1 f2 B : Nat) w' (hI : HIn w' B D0 D1 D2 m0 m1 m2 G) (hc : Row w' Bc A (X.c.map Value.bool)) => rtries16_any D0 D1 D2 A A' m0 m1 m2 X.c.length X.l.length f0 f1 f2 c c' B Bc G X.c w' hI (mayW_inv hm).1 hc rfl (mayW_inv hm).2.1.symm);have HM2 : Hid (mayH G = true → m2 ≤ 40) := Hd (fun hm => by rw [← HGL.out]; exact (may_ops hm).1);clear hg hm0 hm1 hm2 hz0 hz1 hT hM hV hI HIG hca hcb hda hdb hrc hrl;unfold hval at HRM HRC HRT;have HO1 := Hd (((Only.refl [] w).alloc (.cells #[.slice A0 n0 c0, .slice A1 n1 c1, .slice A2 n2 c2] 25)).alloc (.cells #[.slice Ac nc cc, .slice Al nl cl] 51));have HB1 := Hd ((Blk.made w 25 #[.slice A0 n0 c0, .slice A1 n1 c1, .slice A2 n2 c2]).alloc (.cells #[.slice Ac nc cc, .slice Al nl cl] 51));have HW1 := Hd (Blk.made (w.alloc (.cells #[.slice A0 n0 c0, .slice A1 n1 c1, .slice A2 n2 c2] 25)) 51 #[.slice Ac nc cc, .slice Al nl cl]);simp only [World.size_alloc] at HW1;go_enter Tryz.func6, Tryz.ntmps6;go_upto_region 1 with (fail)
 generalize ((w.alloc (.cells #[.slice A0 n0 c0, .slice A1 n1 c1, .slice A2 n2 c2] 25)).alloc (.cells #[.slice Ac nc cc, .slice Al nl cl] 51)) = w1 at *;generalize hgw : w.heap.size + 1 = gw at *;generalize hgg : w.heap.size = g at *;refine wp_region_noPanic ?_;refine wp_region_timed (F := [⟨[], [4], fun w' => Only [] w1 w'⟩, ⟨[], [5], fun w' => Only [g] w1 w'⟩]) (by kernel_rfl) (timed_holds ((Only.refl [] w1).drew) (th1 ((Only.refl [g] w1).drew))) ?_;have OW : Only [] w1 w1.drew := (Only.refl [] w1).drew;generalize w1.drew = wz at *;refine trd (i := 0) (v := ?_) 0 ?_ ?_;rotate_left
 ·(intro wq hSw; obtain ⟨lb_H, y0, y1, y2⟩ := Bk3 (hSw.blk HB1.out (by simp)); simp at y0 y1 y2; clear hSw; go_simp; try with_reducible rfl)
 (try simp only [Act.put, tdy]);refine trd (i := 2) (v := ?_) 1 ?_ ?_;rotate_left
 ·(intro wq hSw; have hb_W := hSw.blk HW1.out (by simp; omega); have lb_W := hb_W.lt; have x0 := hb_W.at_ 0; have x1 := hb_W.at_ 1; simp at x0 x1; clear hb_W; clear hSw; go_simp; try with_reducible rfl)
 (try simp only [Act.put, tdy]);refine tst (i := 1) fun K hK => ?_;go_simp;refine (HF0.out _ (HO1.out.trans OW)).mono ?_;rintro e w2 ⟨B0, B1, B2, d0, d1, d2, ⟨rfl, hI⟩, O2⟩;have OW1 := OW.trans O2;clear O2;refine hK.out _ _ (timed_holds (OW1) (th1 (OW1.wide (fun i hi => by cases hi)))) ?_;clear hK K;(try simp only [Act.put, tdy]);refine tst (i := 3) fun K hK => ?_;go_simp;refine (HFW0.out _ (HO1.out.trans OW1)).mono ?_;rintro e w3 ⟨yw, ⟨rfl, hwa⟩, O3⟩;obtain ⟨A3, e3, A4, e4, rfl, hw3⟩ := hwa;have OW2 := OW1.trans O3;have hI3 := hI.same O3;have hb3 := OW2.blk HB1.out (by simp);have hx3 := OW2.blk HW1.out (by simp);have HO3 := Hd (HO1.out.trans OW2);have hg2 : g ≤ w2.heap.size := by have := (HO1.out.trans OW1).size; omega
 have hw3g := hw3.low hg2;clear O3;refine hK.out _ _ (timed_holds (OW2) (th1 (OW2.wide (fun i hi => by cases hi)))) ?_;clear hK K;(try simp only [Act.put, tdy]);refine tst (i := 4) fun K hK => ?_;refine wp_store_blk 25 (.tmp 2) (.tmp 12) rfl g 25 _ #[.slice B0 m0 d0, .slice B1 m1 d1, .slice B2 m2 d2] rfl rfl hb3 rfl (by kernel_rfl) (by kernel_rfl) ?_;intro w4 b4 o4;have HB4 := Hd b4;have hO4 := HO3.out.step o4 (fun i hi hl => by simp at hi; omega);have hI4 := hI3.past hb3 o4 (HT.out.only hO4);have hx4 := o4.blk hx3 (by simp; omega);have hw4 : WAt w4 g ⟨X, A3, e3, A4, e4⟩ := ⟨owb hw3g.c hb3 o4, owb hw3g.l hb3 o4⟩;have OQ := (OW2.wide (T := [g]) (fun i hi => by cases hi)).trans o4;refine hK.out _ _ (timed_over (by kernel_rfl) (th1 (OQ))) ?_;clear hK K;(try simp only [Act.put, tdy]);refine tst (i := 5) fun K hK => ?_;refine wp_store_blk 51 (.tmp 3) (.tmp 14) rfl gw 51 _ #[.slice A3 X.c.length e3, .slice A4 X.l.length e4] rfl rfl hx4 rfl (by kernel_rfl) (by kernel_rfl) ?_;intro w5 b5 o5;have HW5 := Hd b5;have HO5 := Hd (hO4.step o5 (fun i hi hl => by simp at hi; omega));have HI5 := Hd (hI4.pastW hx4 o5 (HT.out.only HO5.out));have HB5 := Hd (o5.blk HB4.out (by simp; omega));have HX5 := Hd (hw4.blkS hx4 o5);refine hK.out _ _ (timed_over (by kernel_rfl) (timed_over (by kernel_rfl) (timed_nil))) ?_;clear hK K;(try simp only [Act.put, tdy]);refine timed_done (by kernel_rfl) ?_ _;refine NoPanic.normal ?_;clear OW OW1 OW2 hI hI3 hI4 hO4 hb3 hx3 hx4 hw3 hw3g hw4 o4 o5 b4 b5 HB4 HO3 OQ HB1 HW1 HO1 HF0 HFW0 hg2;have HH5 : Hid (HAgg w5 m0 m1 m2 G (.agg #[.slice B0 m0 d0, .slice B1 m1 d1, .slice B2 m2 d2])) := Hd ⟨_, B0, B1, B2, d0, d1, d2, rfl, HI5.out⟩;have HZ5 : Hid (WAgg w5 g X (.agg #[.slice A3 X.c.length e3, .slice A4 X.l.length e4])) := Hd ⟨A3, e3, A4, e4, rfl, HX5.out⟩;have hg5 : g ≤ w5.heap.size := by have := HO5.out.size; omega
 go_upto_region 2 with (fail)
 have RD0 := Hd fun wq (hSw : Only [] w5 wq) => And.intro (Bk3 (hSw.blk HB5.out (by simp))) (Bk2 (hSw.blk HW5.out (by simp)));refine wp_region_noPanic ?_;refine wp_region_timed (F := [⟨[], [], fun w' => Only [] w5 w'⟩]) (by kernel_rfl) (th1 ((Only.refl [] w5).drew)) ?_;have OW : Only [] w5 w5.drew := (Only.refl [] w5).drew;generalize w5.drew = wz at *;refine trd (i := 0) (v := ?_) 0 ?_ ?_;rotate_left
 ·(intro wq q; obtain ⟨⟨lb_H, y0, y1, y2⟩, ⟨lb_W, x0, x1⟩⟩ := RD0.out wq q; simp at y0 y1 y2; simp at x0 x1; clear q; go_simp; try with_reducible rfl)
 (try simp only [Act.put, tdy]);refine trd (i := 2) (v := ?_) 0 ?_ ?_;rotate_left
 ·(intro wq q; obtain ⟨⟨lb_H, y0, y1, y2⟩, ⟨lb_W, x0, x1⟩⟩ := RD0.out wq q; simp at y0 y1 y2; simp at x0 x1; clear q; go_simp; try with_reducible rfl)
 (try simp only [Act.put, tdy]);refine trd (i := 5) (v := ?_) 0 ?_ ?_;rotate_left
 ·(intro wq q; obtain ⟨⟨lb_H, y0, y1, y2⟩, ⟨lb_W, x0, x1⟩⟩ := RD0.out wq q; simp at y0 y1 y2; simp at x0 x1; clear q; go_simp; try with_reducible rfl)
 (try simp only [Act.put, tdy]);refine trd (i := 7) (v := ?_) 0 ?_ ?_;rotate_left
 ·(intro wq q; obtain ⟨⟨lb_H, y0, y1, y2⟩, ⟨lb_W, x0, x1⟩⟩ := RD0.out wq q; simp at y0 y1 y2; simp at x0 x1; clear q; go_simp; try with_reducible rfl)
 (try simp only [Act.put, tdy]);refine tst (i := 1) fun K hK => ?_;go_simp;refine (HFA.out _ _ (HH5.out.same OW)).mono ?_;rintro e wa ⟨yh, ⟨rfl, hyh⟩, Oa⟩;have OW1 := OW.trans Oa;clear Oa;refine hK.out _ _ (th1 (OW1)) ?_;clear hK K;(try simp only [Act.put, tdy]);refine tst (i := 3) fun K hK => ?_;go_simp;refine (HWA.out _ _ _ (HZ5.out.same OW1)).mono ?_;rintro e wb ⟨yw, ⟨rfl, hyw⟩, Ob⟩;have OW2 := OW1.trans Ob;have hyh2 := hyh.same Ob;clear Ob;refine hK.out _ _ (th1 (OW2)) ?_;clear hK K;(try simp only [Act.put, tdy]);refine tst (i := 4) fun K hK => ?_;go_simp;refine (HCM.out yh yw _ _ hyh2 hyw).mono ?_;rintro e wc ⟨Vc, ⟨rfl, hvc⟩, Oc⟩;have OW3 := OW2.trans Oc;have hvc3 := own_low hvc (show g ≤ wb.heap.size by have := OW2.size; omega);clear Oc hvc;refine hK.out _ _ (th1 (OW3)) ?_;clear hK K;(try simp only [Act.put, tdy]);refine tst (i := 6) fun K hK => ?_;go_simp;refine (HFA.out _ _ (HH5.out.same OW3)).mono ?_;rintro e wd ⟨yk, ⟨rfl, hyk⟩, Od⟩;have OW4 := OW3.trans Od;have hvc4 := own_only hvc3 Od (by simp);clear Od;refine hK.out _ _ (th1 (OW4)) ?_;clear hK K;(try simp only [Act.put, tdy]);refine tst (i := 8) fun K hK => ?_;go_simp;refine (HWA.out _ _ _ (HZ5.out.same OW4)).mono ?_;rintro e we ⟨yv, ⟨rfl, hyv⟩, Oe⟩;have OW5 := OW4.trans Oe;have hyh6 := hyk.same Oe;have hvc5 := own_only hvc4 Oe (by simp);clear Oe;refine hK.out _ _ (th1 (OW5)) ?_;clear hK K;(try simp only [Act.put, tdy]);refine tst (i := 9) fun K hK => ?_;go_simp;refine (HTR.out yk yv _ _ hyh6 hyv).mono ?_;rintro e wf ⟨Vt, ⟨xs, rfl, hxs, hvt, hxx⟩, Of⟩;have OW6 := OW5.trans Of;have hge : g ≤ we.heap.size := by have := OW5.size; omega
 have HC6 := Hd (own_only hvc5 Of (by simp));have HT6 := Hd (own_low hvt hge);have HXX6 : Hid (VVown wf g xs) := Hd (fun x hx => own_low (hxx x hx) hge);have HXS := Hd hxs;clear Of;refine hK.out _ _ (th1 (OW6)) ?_;clear hK K;(try simp only [Act.put, tdy]);refine tp (i := 10) ?_;(try simp only [Act.put, tdy]);refine tp (i := 11) ?_;(try simp only [Act.put, tdy]);refine timed_done (by kernel_rfl) ?_ _;refine NoPanic.normal ?_;obtain ⟨AC, cC, rfl, -, -, -, -⟩ := own_row HC6.out;obtain ⟨AT, cT, rfl, -, -, -, -⟩ := own_row HT6.out;have HO6 := Hd (HO5.out.trans OW6);have HB6 := Hd (OW6.blk HB5.out (by simp));have HW6 := Hd (OW6.blk HW5.out (by simp));have HI6 := Hd (HI5.out.same OW6);have HX6 := Hd (HX5.out.same OW6);have HH6 := Hd (HH5.out.same OW6);have HZ6 := Hd (HZ5.out.same OW6);clear HO5 HB5 HW5 HI5 HX5 HH5 HZ5;clear OW OW1 OW2 OW3 OW4 OW5 OW6 hyh hyh2 hyw hyk hyv hyh6 hvc3 hvc4 hvc5 hvt hxx hxs hge HCM HTR;generalize wf = w6 at *;go_upto_region 3 with (fail)
 have RD0 := Hd fun wq (hSw : Only [] w6 wq) => And.intro (Bk3 (hSw.blk HB6.out (by simp))) (Bk2 (hSw.blk HW6.out (by simp)));refine wp_region_noPanic ?_;refine wp_region_timed (F := [⟨[], [], fun w' => Only [] w6 w'⟩]) (by kernel_rfl) (th1 ((Only.refl [] w6).drew)) ?_;have OW : Only [] w6 w6.drew := (Only.refl [] w6).drew;generalize w6.drew = wz at *;refine trd (i := 0) (v := ?_) 0 ?_ ?_;rotate_left
 ·(intro wq q; obtain ⟨⟨lb_H, y0, y1, y2⟩, ⟨lb_W, x0, x1⟩⟩ := RD0.out wq q; simp at y0 y1 y2; simp at x0 x1; clear q; go_simp; try with_reducible rfl)
 (try simp only [Act.put, tdy]);refine trd (i := 2) (v := ?_) 0 ?_ ?_;rotate_left
 ·(intro wq q; obtain ⟨⟨lb_H, y0, y1, y2⟩, ⟨lb_W, x0, x1⟩⟩ := RD0.out wq q; simp at y0 y1 y2; simp at x0 x1; clear q; go_simp; try with_reducible rfl)
 (try simp only [Act.put, tdy]);refine trd (i := 5) (v := ?_) 0 ?_ ?_;rotate_left
 ·(intro wq q; obtain ⟨⟨lb_H, y0, y1, y2⟩, ⟨lb_W, x0, x1⟩⟩ := RD0.out wq q; simp at y0 y1 y2; simp at x0 x1; clear q; go_simp; try with_reducible rfl)
 (try simp only [Act.put, tdy]);refine trd (i := 6) (v := ?_) 0 ?_ ?_;rotate_left
 ·(intro wq q; obtain ⟨⟨lb_H, y0, y1, y2⟩, ⟨lb_W, x0, x1⟩⟩ := RD0.out wq q; simp at y0 y1 y2; simp at x0 x1; clear q; go_simp; try with_reducible rfl)
 (try simp only [Act.put, tdy]);refine tst (i := 1) fun K hK => ?_;go_simp;refine (HFA.out _ _ (HH6.out.same OW)).mono ?_;rintro e wa ⟨yh, ⟨rfl, hyh⟩, Oa⟩;have OW1 := OW.trans Oa;clear Oa;refine hK.out _ _ (th1 (OW1)) ?_;clear hK K;(try simp only [Act.put, tdy]);refine tst (i := 3) fun K hK => ?_;go_simp;refine (HWA.out _ _ _ (HZ6.out.same OW1)).mono ?_;rintro e wb ⟨yw, ⟨rfl, hyw⟩, Ob⟩;have OW2 := OW1.trans Ob;have hyh2 := hyh.same Ob;clear Ob;refine hK.out _ _ (th1 (OW2)) ?_;clear hK K;(try simp only [Act.put, tdy]);refine tst (i := 4) fun K hK => ?_;go_simp;refine (HMW.out yh yw _ _ hyh2 hyw).mono ?_;rintro e wc ⟨rfl, Oc⟩;have OW3 := OW2.trans Oc;clear Oc;refine hK.out _ _ (th1 (OW3)) ?_;clear hK K;(try simp only [Act.put, tdy]);refine tst (i := 7) fun K hK => ?_;go_simp;refine (HRM.out A3 A4 e3 e4 _ B0 B1 B2 d0 d1 d2 _ _ (HI6.out.same OW3) ((own_row_at HX6.out.l).1.only OW3 (by simp))).mono ?_;rintro e wd ⟨rfl, Od⟩;have OW4 := OW3.trans Od;clear Od;refine hK.out _ _ (th1 (OW4)) ?_;clear hK K;(try simp only [Act.put, tdy]);refine tp (i := 8) ?_;(try simp only [Act.put, tdy]);refine timed_done (by kernel_rfl) ?_ _;refine NoPanic.normal ?_;have HO7 := Hd (HO6.out.trans OW4);have HB7 := Hd (OW4.blk HB6.out (by simp));have HW7 := Hd (OW4.blk HW6.out (by simp));have HI7 := Hd (HI6.out.same OW4);have HX7 := Hd (HX6.out.same OW4);have HH7 := Hd (HH6.out.same OW4);have HZ7 := Hd (HZ6.out.same OW4);have HC7 := Hd (own_only HC6.out OW4 (by simp));have HT7 := Hd (own_only HT6.out OW4 (by simp));have HXX7 := Hd (HXX6.out.same OW4);clear HO6 HB6 HW6 HI6 HX6 HH6 HZ6 HC6 HT6 HXX6;clear OW OW1 OW2 OW3 OW4 hyh hyh2 hyw HMW HFA HWA;generalize wd = w7 at *;have HRM7 := Hd (HRM.out A3 A4 e3 e4 _ B0 B1 B2 d0 d1 d2 _ w7 HI7.out (own_row_at HX7.out.l).1);clear HRM
 cases hm : mayW G X with
 | false =>
  rw [hm] at HRM7;have hc0 : (comW G X).length = 0 := by unfold comW; rw [hm]; rfl
  have ht0 : (triW G X).length = 0 := by unfold triW; rw [hm]; rfl
  rw [hc0, ht0];clear hm HRC HRT hc0 ht0;have qb : (false != false) = false := rfl;have lHB_ := HB7.out.lt;have y0 := HB7.out.at_ 0;have y1 := HB7.out.at_ 1;have y2 := HB7.out.at_ 2;have lHW_ := HW7.out.lt;have x0 := HW7.out.at_ 0;have x1 := HW7.out.at_ 1;simp at y0 y1 y2 x0 x1;go_wp2_with fail
  refine (HRM7.out).mono ?_;rintro e w8 ⟨rfl, O8⟩;clear lHB_ lHW_ y0 y1 y2 x0 x1;have HO8 := Hd (HO7.out.trans O8);have HB8 := Hd (O8.blk HB7.out (by simp));have HW8 := Hd (O8.blk HW7.out (by simp));have HI8 := Hd (HI7.out.same O8);have HX8 := Hd (HX7.out.same O8);have HH8 := Hd (HH7.out.same O8);have HZ8 := Hd (HZ7.out.same O8);have HC8 := Hd (own_only HC7.out O8 (by simp));have HT8 := Hd (own_only HT7.out O8 (by simp));have HXX8 := Hd (HXX7.out.same O8);clear HO7 HB7 HW7 HI7 HX7 HH7 HZ7 HC7 HT7 HXX7;clear O8 HRM7;go_wp2_with fail
  refine (HW.out _ HO8.out).mono ?_;rintro e w9 ⟨rfl, O9⟩;have HO9 := Hd (HO8.out.trans O9);go_wp2
  go_ret
  exact ⟨rfl, HO9.out⟩
 | true =>
  rw [hm] at HRM7;have HRC1 := Hd (HRC.out hm);have HRT1 := Hd (HRT.out hm);have hm2 := HM2.out (mayW_inv hm).1;have hce : comW G X = comL G.l X.c := by unfold comW; rw [hm]; rfl
  have hte : triW G X = allT G X.c := by unfold triW; rw [hm]; rfl
  have hal : (allT G X.c).length = X.l.length := by rw [allT_len]; exact (mayW_inv hm).2.2.1.symm
  have HAF := Hd (allT_few (may_ops (mayW_inv hm).1).1 X.c);have HCE := Hd (comL_len G.l X.c);rw [HGL.out] at HCE;rw [hce, HCE.out] at HC7;rw [hte, hal] at HT7;rw [hte] at HXS;rw [hce, hte, HCE.out, hal];rw [hal] at HRT1;have HAL := Hd hal;have hxl := HXB.out.2;generalize comL G.l X.c = cs at *;generalize allT G X.c = vals at *;clear hm HRC HRT HM2 hce hte hal HXB HBD HFE HFC HXE;have qb : (true != true) = false := rfl;have lHB_ := HB7.out.lt;have y0 := HB7.out.at_ 0;have y1 := HB7.out.at_ 1;have y2 := HB7.out.at_ 2;have lHW_ := HW7.out.lt;have x0 := HW7.out.at_ 0;have x1 := HW7.out.at_ 1;simp at y0 y1 y2 x0 x1;clear HH7 HZ7;go_wp2_with fail
  refine (HRM7.out).mono ?_;rintro e w8 ⟨rfl, O8⟩;clear lHB_ lHW_ y0 y1 y2 x0 x1;have HO8 := Hd (HO7.out.trans O8);have HB8 := Hd (O8.blk HB7.out (by simp));have HW8 := Hd (O8.blk HW7.out (by simp));have HI8 := Hd (HI7.out.same O8);have HX8 := Hd (HX7.out.same O8);have HC8 := Hd (own_only HC7.out O8 (by simp));have HT8 := Hd (own_only HT7.out O8 (by simp));have HXX8 := Hd (HXX7.out.same O8);clear HO7 HB7 HW7 HI7 HX7 HC7 HT7 HXX7;clear O8 HRM7 qb;have hg8 : g ≤ w8.heap.size := by have := HO8.out.size; omega
  go_upto_region 7 with (fail)
  have RD0 := Hd fun wq (hSw : Only [] w8 wq) => And.intro (Bk3 (hSw.blk HB8.out (by simp))) (Bk2 (hSw.blk HW8.out (by simp)));refine wp_region_noPanic ?_;refine wp_region_timed (F := [⟨[], [], fun w' => Only [] w8 w'⟩]) (by kernel_rfl) (th1 ((Only.refl [] w8).drew)) ?_;have OW : Only [] w8 w8.drew := (Only.refl [] w8).drew;generalize w8.drew = wz at *;refine trd (i := 0) (v := ?_) 0 ?_ ?_;rotate_left
  ·(intro wq q; obtain ⟨⟨lb_H, y0, y1, y2⟩, ⟨lb_W, x0, x1⟩⟩ := RD0.out wq q; simp at y0 y1 y2; simp at x0 x1; clear q; go_simp; try with_reducible rfl)
  (try simp only [Act.put, tdy]);refine trd (i := 1) (v := ?_) 0 ?_ ?_;rotate_left
  ·(intro wq q; obtain ⟨⟨lb_H, y0, y1, y2⟩, ⟨lb_W, x0, x1⟩⟩ := RD0.out wq q; simp at y0 y1 y2; simp at x0 x1; clear q; go_simp; try with_reducible rfl)
  (try simp only [Act.put, tdy]);refine trd (i := 3) (v := ?_) 0 ?_ ?_;rotate_left
  ·(intro wq q; obtain ⟨⟨lb_H, y0, y1, y2⟩, ⟨lb_W, x0, x1⟩⟩ := RD0.out wq q; simp at y0 y1 y2; simp at x0 x1; clear q; go_simp; try with_reducible rfl)
  (try simp only [Act.put, tdy]);refine trd (i := 4) (v := ?_) 0 ?_ ?_;rotate_left
  ·(intro wq q; obtain ⟨⟨lb_H, y0, y1, y2⟩, ⟨lb_W, x0, x1⟩⟩ := RD0.out wq q; simp at y0 y1 y2; simp at x0 x1; clear q; go_simp; try with_reducible rfl)
  (try simp only [Act.put, tdy]);refine tst (i := 2) fun K hK => ?_;go_simp;refine (HRC1.out A3 A4 e3 e4 _ B0 B1 B2 d0 d1 d2 _ _ (HI8.out.same OW) ((own_row_at HX8.out.c).1.only OW (by simp))).mono ?_;rintro e wa ⟨Vd, ⟨rfl, hvd⟩, Oa⟩;have OW1 := OW.trans Oa;have hgz : g ≤ wz.heap.size := by have := OW.size; omega
  have hvd1 := own_low hvd hgz;clear Oa hvd;refine hK.out _ _ (th1 (OW1)) ?_;clear hK K;(try simp only [Act.put, tdy]);refine tst (i := 5) fun K hK => ?_;go_simp;refine (HRT1.out A3 A4 e3 e4 _ B0 B1 B2 d0 d1 d2 _ _ (HI8.out.same OW1) ((own_row_at HX8.out.c).1.only OW1 (by simp))).mono ?_;rintro e wb ⟨Vu, ⟨us, rfl, hus, hvu, huu⟩, Ob⟩;have OW2 := OW1.trans Ob;have hga : g ≤ wa.heap.size := by have := OW1.size; omega
  have HD9 := Hd (own_only hvd1 Ob (by simp));have HU9 := Hd (own_low hvu hga);have HUU9 : Hid (VVown wb g us) := Hd (fun x hx => own_low (huu x hx) hga);have HUS := Hd hus;clear Ob;refine hK.out _ _ (th1 (OW2)) ?_;clear hK K;(try simp only [Act.put, tdy]);refine tp (i := 6) ?_;(try simp only [Act.put, tdy]);refine tp (i := 7) ?_;(try simp only [Act.put, tdy]);refine timed_done (by kernel_rfl) ?_ _;refine NoPanic.normal ?_;have HO9 := Hd (HO8.out.trans OW2);have HB9 := Hd (OW2.blk HB8.out (by simp));have HW9 := Hd (OW2.blk HW8.out (by simp));have HI9 := Hd (HI8.out.same OW2);have HX9 := Hd (HX8.out.same OW2);have HC9 := Hd (own_only HC8.out OW2 (by simp));have HT9 := Hd (own_only HT8.out OW2 (by simp));have HXX9 := Hd (HXX8.out.same OW2);clear HO8 HB8 HW8 HI8 HX8 HC8 HT8 HXX8;obtain ⟨AD, cD, rfl, -, -, -, -⟩ := own_row HD9.out;obtain ⟨AU, cU, rfl, -, -, -, -⟩ := own_row HU9.out;clear OW OW1 OW2 hvd1 hvu huu hus hgz hga HRC1 HRT1 HB9 HW9 HI9 HX9;generalize wb = w9 at *;generalize X.l.length = nt at *;have q1 : ((m2 : Int) != (m2 : Int)) = false := by simp
  have q2 : ((nt : Int) != (nt : Int)) = false := by simp
  go_upto_region 10 with (fail)
  clear q1 q2;go_wp2_with fail
  go_loopw [9] (fun iv wr => ∃ k : Nat, iv = .int .i64 (k : Int) ∧ k ≤ m2 ∧ Hid (Only [] w9 wr)) (fun iv _ => m2 - (intOf iv).toNat)
  case atStart => exact ⟨0, rfl, by omega, Hd (Only.refl [] _)⟩
  case round =>
   obtain ⟨k, rfl, hk, hQ⟩ := hrel
   by_cases hlt : k < m2
   ·obtain ⟨b, hb⟩ : ∃ b, cs[k]? = some b := ⟨_, List.getElem?_eq_getElem (by rw [HCE.out]; exact hlt)⟩;obtain ⟨b1, o1, rfl, hb1, hc1⟩ := bool_at (own_only HC9.out hQ.out (by simp)) hb;obtain ⟨b2, o2, rfl, hb2, hc2⟩ := bool_at (own_only HD9.out hQ.out (by simp)) hb;have HU := Hd hc1;have HV := Hd hc2;have qb : (b != b) = false := by cases b <;> rfl
    have hk0 : (0 : Int) ≤ (k : Int) := Int.natCast_nonneg _;have h01 : (k : Int) < (m2 : Int) := by omega
    have hwk : IntKind.i64.wrap ((k : Int) + 1) = (k : Int) + 1 := IntWalk.i64_in _ (by omega);clear hb hc1 hc2;go_upto_region 13 with (fail)
    have RD0 := Hd fun wq (hSw : Only [] wr wq) => And.intro ((hSw.cell (p := ⟨b1, o1 + k, none⟩) hb1 (by simp)).trans HU.out) ((hSw.cell (p := ⟨b2, o2 + k, none⟩) hb2 (by simp)).trans HV.out);refine wp_region_noPanic ?_;refine wp_region_timed (F := [⟨[], [], fun w' => Only [] wr w'⟩]) (by kernel_rfl) (th1 ((Only.refl [] wr).drew)) ?_;have OW : Only [] wr wr.drew := (Only.refl [] wr).drew;generalize wr.drew = wz at *;refine tp (i := 0) ?_;(try simp only [Act.put, tdy]);refine tp (i := 1) ?_;(try simp only [Act.put, tdy]);refine tp (i := 2) ?_;(try simp only [Act.put, tdy]);refine trd (i := 3) (v := ?_) 0 ?_ ?_;rotate_left
    ·(intro wq q; obtain ⟨u0, v0⟩ := RD0.out wq q; clear q; go_simp; try with_reducible rfl)
    (try simp only [Act.put, tdy]);refine tp (i := 4) ?_;(try simp only [Act.put, tdy]);refine tp (i := 5) ?_;(try simp only [Act.put, tdy]);refine tp (i := 6) ?_;(try simp only [Act.put, tdy]);refine trd (i := 7) (v := ?_) 0 ?_ ?_;rotate_left
    ·(intro wq q; obtain ⟨u0, v0⟩ := RD0.out wq q; clear q; go_simp; try with_reducible rfl)
    (try simp only [Act.put, tdy]);refine tp (i := 8) ?_;(try simp only [Act.put, tdy]);refine timed_done (by kernel_rfl) ?_ _;refine NoPanic.normal ?_;have hQ9 := Hd (hQ.out.trans OW);clear OW hQ HU HV;go_wp2
    go_roundw
    case rel => exact ⟨k + 1, by go_num, by omega, hQ9⟩
    case measure => simp [intOf]; omega
   ·have hkn : m2 = k := by omega
    subst hkn;have hd2 : decide ((m2 : Int) < (m2 : Int)) = false := by simp
    have HOr := Hd (HO9.out.trans hQ.out);have HTr := Hd (own_only HT9.out hQ.out (by simp));have HXr := Hd (HXX9.out.same hQ.out);have HUr := Hd (own_only HU9.out hQ.out (by simp));have HUUr := Hd (HUU9.out.same hQ.out);clear HC9 HD9 HT9 HXX9 HU9 HUU9 HO9 hQ;go_upto_region 15 with (fail)
    obtain ⟨wo, hwo⟩ : ∃ wo : World, wo = wr := ⟨_, rfl⟩;subst hwo;go_wp2_with fail
    go_loopw [10] (fun iv wr => ∃ k : Nat, iv = .int .i64 (k : Int) ∧ k ≤ nt ∧ Hid (Only [] wo wr)) (fun iv _ => nt - (intOf iv).toNat)
    case atStart => exact ⟨0, rfl, by omega, Hd (Only.refl [] _)⟩
    case round =>
     obtain ⟨k, rfl, hk, hQ⟩ := hrel
     by_cases hlt : k < nt
     ·have hxl2 : xs.length = nt := by have := congrArg List.length HXS.out; rw [List.length_map, HAL.out] at this; exact this
      have hul2 : us.length = nt := by have := congrArg List.length HUS.out; rw [List.length_map, HAL.out] at this; exact this
      obtain ⟨x, hx⟩ : ∃ x, xs[k]? = some x := ⟨_, List.getElem?_eq_getElem (by omega)⟩;obtain ⟨u, hu⟩ : ∃ u, us[k]? = some u := ⟨_, List.getElem?_eq_getElem (by omega)⟩;have hxv : vals[k]? = some x.l := by rw [← HXS.out, List.getElem?_map, hx]; rfl
      have huv : vals[k]? = some u.l := by rw [← HUS.out, List.getElem?_map, hu]; rfl
      have hxu : u.l = x.l := by rw [hxv] at huv; exact (Option.some.inj huv).symm
      have hfew := HAF.out _ (List.mem_of_getElem? hxv);obtain ⟨bT, oT, rfl, -, hbT, hcT, hrT⟩ := vv_get (own_only HTr.out hQ.out (by simp)) (HXr.out.same hQ.out) hx;obtain ⟨bU, oU, rfl, -, hbU, hcU, hrU⟩ := vv_get (own_only HUr.out hQ.out (by simp)) (HUUr.out.same hQ.out) hu;rw [hxu] at hcU hrU;have HT1 := Hd hcT;have HU1 := Hd hcU;have HSL := Hd (fun w' (O : Only [] wr w') => sameList_eq x.A u.A x.l.length x.cp u.cp x.l w' _ _ (hrT.only O (by simp)) (hrU.only O (by simp)) rfl (by omega));obtain ⟨xl, xA, xc⟩ := x;obtain ⟨ul, uA, uc⟩ := u;dsimp only at *;generalize xl.length = xn at *;have hk0 : (0 : Int) ≤ (k : Int) := Int.natCast_nonneg _;have h01 : (k : Int) < (nt : Int) := by omega
      have hwk : IntKind.i64.wrap ((k : Int) + 1) = (k : Int) + 1 := IntWalk.i64_in _ (by omega);clear hxl2 hul2 hx hu hxv huv hxu hcT hcU hrT hrU;go_upto_region 18 with (fail)
      have RD0 := Hd fun wq (hSw : Only [] wr wq) => And.intro ((hSw.cell (p := ⟨bT, oT + k, none⟩) hbT (by simp)).trans HT1.out) ((hSw.cell (p := ⟨bU, oU + k, none⟩) hbU (by simp)).trans HU1.out);refine wp_region_noPanic ?_;refine wp_region_timed (F := [⟨[], [], fun w' => Only [] wr w'⟩]) (by kernel_rfl) (th1 ((Only.refl [] wr).drew)) ?_;have OW : Only [] wr wr.drew := (Only.refl [] wr).drew;generalize wr.drew = wz at *;refine tp (i := 0) ?_;(try simp only [Act.put, tdy]);refine tp (i := 1) ?_;(try simp only [Act.put, tdy]);refine tp (i := 2) ?_;(try simp only [Act.put, tdy]);refine trd (i := 3) (v := ?_) 0 ?_ ?_;rotate_left
      ·(intro wq q; obtain ⟨t0, u0⟩ := RD0.out wq q; clear q; go_simp; try with_reducible rfl)
      (try simp only [Act.put, tdy]);refine tp (i := 4) ?_;(try simp only [Act.put, tdy]);refine tp (i := 5) ?_;(try simp only [Act.put, tdy]);refine tp (i := 6) ?_;(try simp only [Act.put, tdy]);refine trd (i := 7) (v := ?_) 0 ?_ ?_;rotate_left
      ·(intro wq q; obtain ⟨t0, u0⟩ := RD0.out wq q; clear q; go_simp; try with_reducible rfl)
      (try simp only [Act.put, tdy]);refine tst (i := 8) fun K hK => ?_;go_simp;refine (HSL.out _ OW).mono ?_;rintro e wa ⟨rfl, qd, rfl⟩;have OW1 := OW.drewN qd;refine hK.out _ _ (th1 (OW1)) ?_;clear hK K;(try simp only [Act.put, tdy]);refine tp (i := 9) ?_;(try simp only [Act.put, tdy]);refine timed_done (by kernel_rfl) ?_ _;refine NoPanic.normal ?_;have hQ9 := Hd (hQ.out.trans OW1);clear OW OW1 hQ HT1 HU1 HSL;generalize (wz.drewN qd) = wy at *;go_wp2
      go_roundw
      case rel => exact ⟨k + 1, by go_num, by omega, hQ9⟩
      case measure => simp [intOf]; omega
     ·have hkn : nt = k := by omega
      subst hkn;have hd3 : decide ((nt : Int) < (nt : Int)) = false := by simp
      have HOZ := Hd (HOr.out.trans hQ.out);clear HTr HXr HUr HUUr HOr hQ;go_wp2_with fail
      refine (HW.out _ HOZ.out).mono ?_;rintro e wy ⟨rfl, Oy⟩;have HOY := Hd (HOZ.out.trans Oy);go_wp2
      go_ret
      exact ⟨rfl, HOY.out⟩
end Go.Proofs.YtjfbeeogiejopaaGreatDoor

set_option linter.unusedVariables false
set_option linter.unusedSimpArgs false
namespace Go.Proofs.YtjfbeeogiejopaaGreatDoor
open Go.RowKit Go.ChangeShapes Go.WideShapes Go.ChangeAt Go.Joins Go.Deep
section
variable {H : Type} {enc : TypeId × Value → H} {P : Program} {w : World}
theorem open_world {r : Reach} {b0 : Nat} {t tb teb tvs tv ti tj : TypeId} {f0 f1 g0 g1 : Field} {v : Value} {d : DataW H} {p : List MemPlace}
  (hs : P.underlying t = some (.struct #[f0, f1])) (hC : P.cellsOf t = 2) (htb : P.underlying tb = some (.slice teb)) (heb : P.underlying teb = some .bool) (ceb : P.cellsOf teb = 1) (ctb : P.cellsOf tb = 1)
  (htv : P.underlying tvs = some (.slice tv)) (hvs : P.underlying tv = some (.struct #[g0, g1])) (cv : P.cellsOf tv = 2) (ctv : P.cellsOf tvs = 1) (hi : P.underlying ti = some (.int .i64)) (hj : P.underlying tj = some (.int .i64)) (ci : P.cellsOf ti = 1) (cj : P.cellsOf tj = 1)
  (e0 : f0.type = tb ∧ f0.offset = 0) (e1 : f1.type = tvs ∧ f1.offset = 1) (q0 : g0.type = ti ∧ g0.offset = 0) (q1 : g1.type = tj ∧ g1.offset = 1)
  (hv : Value.okWide P w r b0 t v) (h : DataW.Trod enc P w 0 (fun _ => true) true t v d p) :
  ∃ (A A' : Option Addr) (c c' : Nat) (x : Wld), v = .agg #[.slice A x.c.length c, .slice A' x.l.length c'] ∧ x.c.length ≤ c ∧ c ≤ maxLen ∧ x.l.length ≤ c' ∧ c' ≤ maxLen ∧ Row w w.heap.size A (x.c.map Value.bool) ∧ Row w w.heap.size A' (edgeC x.l) := by
 obtain ⟨cs, rfl, hsz⟩ := okWide_struct hs hv;obtain ⟨fuel, hf0⟩ := h;have bool1 : ∀ fuel' cs' x', DataW.trod enc P w 0 (fun _ => true) true fuel' teb cs' = some x' → ∃ y : Bool, True ∧ cs' = [.bool y] := fun fuel' cs' x' h => by
  obtain ⟨b, a0, -⟩ := DataW.trod_bool heb h;exact ⟨b, trivial, a0⟩
 have val1 : ∀ fuel' cs' x', DataW.trod enc P w 0 (fun _ => true) true fuel' tv cs' = some x' → ∃ y : V2, True ∧ cs' = [.int .i64 y.1, .int .i64 y.2] := fun fuel' cs' x' h => by
  obtain ⟨y0, y1, m, -, hlen, g3, g4⟩ := trod_struct2 hvs h;rw [cv] at hlen;rw [q0.1, q0.2, ci] at g3;rw [q1.1, q1.2, cj] at g4
  match cs', hlen with
  | [u0, u1], _ =>
   obtain ⟨z0, a0, -, -⟩ := DataW.trod_int hi (by simpa using g3);obtain ⟨z1, a1, -, -⟩ := DataW.trod_int hj (by simpa using g4);simp at a0 a1;subst a0 a1;exact ⟨(z0, z1), trivial, rfl⟩
 obtain ⟨xs, n, _, hxx, hl, hlen, hf⟩ := DataW.trod_struct hs hf0;rw [hC] at hl;have hcells : (Value.agg cs).cells.toList = cs.toList := by simp [Value.cells]
 rw [hcells] at hl hf
 match hcs : cs.toList, hl with
 | [c0, c1], _ =>
  rw [hcs] at hf;have h0 := hf 0 f0 rfl;have h1 := hf 1 f1 rfl;rw [e0.1, e0.2, ctb] at h0;rw [e1.1, e1.2, ctv] at h1
  match xs, hlen with
  | [y0, y1], _ =>
   obtain ⟨A0, n0, d0, z0, a0, l0, m0', hn0, hz0, r0⟩ := row_of (fun b : Bool => [Value.bool b]) 1 (fun _ => rfl) (by omega) (fun _ => True) htb ceb bool1 (by simpa using h0);obtain ⟨A1, n1, d1, z1, a1, l1, m1', hn1, hz1, r1⟩ := row_of (fun v : V2 => [Value.int .i64 v.1, Value.int .i64 v.2]) 2 (fun _ => rfl) (by omega) (fun _ => True) htv cv val1 (by simpa using h1);simp at a0 a1;subst a0 a1;have fs : ∀ l : List Bool, l.flatMap (fun b => [Value.bool b]) = l.map Value.bool := fun l => by
    induction l with
    | nil => rfl
    | cons x l ih => rw [List.flatMap_cons, ih]; rfl
   rw [fs] at r0;refine ⟨A0, A1, d0, d1, ⟨z0, z1⟩, ?_, by rw [hn0]; exact l0, m0', by rw [hn1]; exact l1, m1', r0, r1⟩;have e : cs = #[.slice A0 n0 d0, .slice A1 n1 d1] := by
    apply Array.toList_inj.1
    rw [hcs]
   dsimp only;rw [e, hn0, hn1]
end
end Go.Proofs.YtjfbeeogiejopaaGreatDoor

set_option linter.unusedVariables false
set_option linter.unusedSimpArgs false
namespace Go.Proofs.YtjfbeeogiejopaaGreatDoor
open Go.ChangeShapes Go.WideShapes Go.ChangeAt Go.RowKit
theorem handed_and_shaped {H : Type} {enc : TypeId × Value → H} {a : Assume} {C : Checked} {os : Os} {f : FuncId} {fn : Func} {s : ChangeSpec} {conds : List PathCond} {apart fresh handsOn again : Bool} {X : World → Array Value → Prop}
  (hX : ∀ (w w' : World) (args : Array Value), w.heap = w'.heap → X w args → X w' args)
  (own : ownKnob C.prog.godebug = none) (started : os.Started) (noInit : C.prog.inits.idxOf? f = none) (hfn : C.prog.funcs[f]? = some fn)
  (witness : ∃ (w : World) (tape : Tape) (i : Input), w.os = os ∧ (w.forCall tape i).Shaped C.prog ∧ i.vars = [] ∧ Input.okWide C.prog (w.forCall tape i) .any w.heap.size f i ∧
   ((s.pre enc C.prog fn conds apart (w.forCall tape i).memory i.args ∧ X (w.forCall tape i).memory i.args) ∧ sizedMet enc C.prog fn (OpenSpec.ofChange s) apart (w.forCall tape i).memory i.args) ∧ a.holds C.prog (lone (Frame.enter C.prog f i.args .normal) [] (w.forCall tape i)))
  (contract : ∀ (W : World) (base : Nat) (args : Array Value) (ds gs : List (DataW H)) (before : List MemPlace),
   (∀ (j : Nat) t v, fn.params[j]? = some t → args[j]? = some v → Value.okWide C.prog W .any base t v) →
   DataW.Whole enc C.prog fn.params.toList s.vars apart W args.toList ds gs before →
   W.ShapedOpen C.prog →
   (DataW.weightsEach C.prog (fn.params.toList ++ s.plain.varTypes C.prog) (ds ++ gs)).all (· ≤ reachBytes) = true → X W args →
   a.holds C.prog (lone (Frame.enter C.prog f args .normal) [] W) →
   Calls C.prog f args W fun e W' => ∃ v, e = .returned v ∧ s.post enc C.prog fn apart fresh handsOn again W args v W') :
  ReturnsInHanded a C os f .any (fun w args => (s.pre enc C.prog fn conds apart w args ∧ X w args) ∧ sizedMet enc C.prog fn (OpenSpec.ofChange s) apart w args) (s.post enc C.prog fn apart fresh handsOn again) := by
 refine returnsInHanded_of_calls own started noInit witness ?_;intro w tape i _ hsh _ hok hpre hholds;obtain ⟨_, _, _, fn', hfn', _, _, _, _, hval⟩ := hok;have e : fn' = fn := Option.some.inj (hfn'.symm.trans hfn);subst e;obtain ⟨⟨⟨ds, gs, before, hw, hc⟩, hx⟩, hz⟩ := hpre;have hw' := DataW.Whole.of_heap (w' := w.forCall tape i) (by rfl) hw;refine (contract (w.forCall tape i) w.heap.size i.args ds gs before hval hw' hsh (hz.weights hw) (hX _ _ _ (by rfl) hx) hholds).mono fun e W' ⟨v, he, hp⟩ => ?_;subst he;exact ChangeSpec.post_blind hp
theorem mlen_of_shaped {W : World} (h : W.ShapedOpen Tryz.prog) : MLen W :=
 Go.Proofs.cell_of_shapedOpen_int (zero := #[.int .i64 0]) (t := 3) h (of_decide_eq_true (by kernel_rfl)) (by kernel_rfl) rfl (by kernel_rfl) (by kernel_rfl) Tryz.underlying3
end Go.Proofs.YtjfbeeogiejopaaGreatDoor

set_option linter.unusedVariables false
set_option linter.unusedSimpArgs false
namespace Go.Proofs.YtjfbeeogiejopaaGreatDoor
open Go.ChangeShapes Go.WideShapes Go.ChangeAt Go.RowKit
def laidL : List (String × DataW Unit) := [("unicode/utf8.acceptRanges", Rows.laid_unicode_utf8_acceptRanges), ("deemster/event.verbs", Rows.laid_deemster_event_verbs), ("unicode/utf8.first", Rows.laid_unicode_utf8_first)]
set_option maxRecDepth 100000 in
theorem laid_accept : (Rows.laid_unicode_utf8_acceptRanges : DataW Unit) = Lib.acceptData := by rfl
set_option maxRecDepth 100000 in
theorem laid_first : Rows.laid_unicode_utf8_first = Lib.firstData := by kernel_rfl
def verbD : List (Int × List UInt8 × Bool) := [(1, [98, 101, 103, 105, 110], false), (2, [114, 101, 97, 100], true), (3, [119, 114, 105, 116, 101], true), (4, [111, 107], false), (5, [102, 97, 105, 108], false), (6, [105, 110, 102, 111], false)]
def verbW (x : Int × List UInt8 × Bool) : DataW Unit := .agg [.lit (.int .i64 x.1), .lit (.string x.2.1), .lit (.bool x.2.2)]
theorem laid_verbs : (Rows.laid_deemster_event_verbs : DataW Unit) = .agg (verbD.map verbW) := by rfl
set_option maxRecDepth 100000 in
theorem tabs_of_laid {W : World} (h : laidMetH Tryz.prog laidL W) : UTabs W := by
 rw [MakeChecks.laidMetH_plain _ _ _ (by kernel_rfl)] at h;unfold laidL at h;rw [laid_accept, laid_first] at h;exact utf8Tabs_of_readsT (U8Types.of196 Tryz.laysValid) ⟨by kernel_rfl, by kernel_rfl, by kernel_rfl, by kernel_rfl, by kernel_rfl, by kernel_rfl, by kernel_rfl⟩ (Lib.laidMet.reads h (.tail _ (.tail _ (.head _)))) (Lib.laidMet.reads h (.head _))
set_option maxRecDepth 100000 in
theorem verb_reads {W : World} {fuel : Nat} {cs : List Value} {x : Int × List UInt8 × Bool} {q : List MemPlace} (h : DataW.trod (fun _ => ()) Tryz.prog W 0 (fun _ => true) false fuel 151 cs = some (verbW x, q)) :
  cs = [.int .i64 x.1, .string ⟨x.2.1.toArray⟩, .bool x.2.2] := by
 obtain ⟨y0, y1, y2, n, hx, hl, h0, h1, h2⟩ := Go.Deep.trod_struct3 Tryz.underlying151 h;rw [show Tryz.prog.cellsOf 151 = 3 by kernel_rfl] at hl
 match cs, hl with
 | [c0, c1, c2], _ =>
  have k0 : Tryz.prog.cellsOf 3 = 1 := by kernel_rfl
  have k1 : Tryz.prog.cellsOf 9 = 1 := by kernel_rfl
  have k2 : Tryz.prog.cellsOf 4 = 1 := by kernel_rfl
  dsimp only at h0 h1 h2;rw [k0] at h0;rw [k1] at h1;rw [k2] at h2;obtain ⟨a, e0, f0, -⟩ := DataW.trod_int Tryz.underlying3 (by simpa using h0);obtain ⟨s, e1, f1, -⟩ := DataW.trod_string Tryz.underlying9 (by simpa using h1);obtain ⟨b, e2, f2⟩ := DataW.trod_bool Tryz.underlying4 (by simpa using h2);simp at e0 e1 e2;subst e0 e1 e2 f0 f1 f2;obtain ⟨x0, x1, x2⟩ := x;simp [verbW] at hx;obtain ⟨⟨rfl, rfl, rfl⟩, -⟩ := hx
  rfl
set_option maxRecDepth 100000 in
theorem verbs_of_laid {W : World} (h : laidMetH Tryz.prog laidL W) : Verbs W := by
 rw [MakeChecks.laidMetH_plain _ _ _ (by kernel_rfl)] at h;unfold laidL at h;rw [laid_verbs] at h;obtain ⟨g, t, cs, fuel, p, hg, hty, hvar, hd⟩ := Lib.laidMet.reads h (.tail _ (.head _));obtain rfl := Option.some.inj ((show Tryz.prog.globalNamed "deemster/event.verbs" = some 2 by kernel_rfl).symm.trans hg);obtain rfl := Option.some.inj ((show (Tryz.prog.globals[2]?).map (·.type) = some 196 by kernel_rfl).symm.trans hty);have key : ∀ (j : Nat) (x : Int × List UInt8 × Bool), j < 6 → verbD[j]? = some x → W.cell? ⟨2, j * 3, none⟩ = some (.int .i64 x.1) ∧ W.cell? ⟨2, j * 3 + 1, none⟩ = some (.string ⟨x.2.1.toArray⟩) ∧ W.cell? ⟨2, j * 3 + 2, none⟩ = some (.bool x.2.2) := by
  intro j x hj hx;obtain ⟨fuel', d, q, hdi, he⟩ := Lib.array_elem Tryz.underlying196 hd j hj;rw [List.getElem?_map, hx] at hdi;simp only [Option.map_some, Option.some.injEq] at hdi;subst hdi;rw [show Tryz.prog.cellsOf 151 = 3 by kernel_rfl] at he;have hcs := verb_reads he;have e0 := congrArg (·[0]?) hcs;have e1 := congrArg (·[1]?) hcs;have e2 := congrArg (·[2]?) hcs;simp only [List.getElem?_take, List.getElem?_drop] at e0 e1 e2;refine ⟨?_, ?_, ?_⟩
  ·rw [World.var?_cell hg hvar (j * 3), ← Array.getElem?_toList]
   simpa using e0
  ·rw [World.var?_cell hg hvar (j * 3 + 1), ← Array.getElem?_toList]
   simpa using e1
  ·rw [World.var?_cell hg hvar (j * 3 + 2), ← Array.getElem?_toList]
   simpa using e2
 have k0 := key 0 _ (by omega) rfl;have k1 := key 1 _ (by omega) rfl;have k2 := key 2 _ (by omega) rfl;have k3 := key 3 _ (by omega) rfl;have k4 := key 4 _ (by omega) rfl;have k5 := key 5 _ (by omega) rfl;refine ⟨World.block_lt_of_cell? W _ k0.1, fun i u hu => ?_⟩;have hi : i < 18 := by
  have := (List.getElem?_eq_some_iff.1 hu).1;exact this
 have hc : i = 0 ∨ i = 1 ∨ i = 2 ∨ i = 3 ∨ i = 4 ∨ i = 5 ∨ i = 6 ∨ i = 7 ∨ i = 8 ∨ i = 9 ∨ i = 10 ∨ i = 11 ∨ i = 12 ∨ i = 13 ∨ i = 14 ∨ i = 15 ∨ i = 16 ∨ i = 17 := by omega
 rcases hc with rfl | rfl | rfl | rfl | rfl | rfl | rfl | rfl | rfl | rfl | rfl | rfl | rfl | rfl | rfl | rfl | rfl | rfl
 ·obtain rfl := Option.some.inj hu;exact k0.1
 ·obtain rfl := Option.some.inj hu;exact k0.2.1
 ·obtain rfl := Option.some.inj hu;exact k0.2.2
 ·obtain rfl := Option.some.inj hu;exact k1.1
 ·obtain rfl := Option.some.inj hu;exact k1.2.1
 ·obtain rfl := Option.some.inj hu;exact k1.2.2
 ·obtain rfl := Option.some.inj hu;exact k2.1
 ·obtain rfl := Option.some.inj hu;exact k2.2.1
 ·obtain rfl := Option.some.inj hu;exact k2.2.2
 ·obtain rfl := Option.some.inj hu;exact k3.1
 ·obtain rfl := Option.some.inj hu;exact k3.2.1
 ·obtain rfl := Option.some.inj hu;exact k3.2.2
 ·obtain rfl := Option.some.inj hu;exact k4.1
 ·obtain rfl := Option.some.inj hu;exact k4.2.1
 ·obtain rfl := Option.some.inj hu;exact k4.2.2
 ·obtain rfl := Option.some.inj hu;exact k5.1
 ·obtain rfl := Option.some.inj hu;exact k5.2.1
 ·obtain rfl := Option.some.inj hu;exact k5.2.2
end Go.Proofs.YtjfbeeogiejopaaGreatDoor
