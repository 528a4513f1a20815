/- Parts. -/
import Derived.Test.YtjfbeeogiejopaaGreatDoorWorldAllCardK30
import Derived.Test.YtjfbeeogiejopaaGreatDoorWorldAllCardK29
import Derived.Test.YtjfbeeogiejopaaGreatDoorWorldAllCardK28
import Derived.Test.YtjfbeeogiejopaaGreatDoorWorldAllCardK10
import Derived.Test.YtjfbeeogiejopaaGreatDoorWorldAllCardK12
set_option maxRecDepth 10000
set_option maxHeartbeats 16000000
set_option linter.unusedVariables false
set_option linter.unusedSimpArgs false
namespace Go.Proofs.YtjfbeeogiejopaaGreatDoor
open Go.RowKit
open Go.Lib hiding intOf
attribute [local go_sem ↓] Go.wp_at_zero Go.wp_at_succ
theorem mayW_inv {h : Hst} {x : Wld} (hm : mayW h x = true) : mayH h = true ∧ x.c.length = (whichL infoB h.l).length ∧ x.l.length = (lostX h.l).length ∧ x.l.all okV = true := by
 unfold mayW at hm;simp only [Bool.and_eq_true, decide_eq_true_eq] at hm;exact ⟨hm.1, hm.2.1, hm.2.2.1, hm.2.2.2⟩
theorem VVown.low {w : World} {b b' : Nat} {xs : List SlA} (h : VVown w b xs) (hb : b' ≤ b) : VVown w b' xs := fun x hx => own_low (h x hx) hb
def firstP (h : Hst) (b : Bool) (x : Pl) : V2 :=
 match h.l[x.1]? with
 | some t => firstX t x.2.1 x.2.2 b
 | none => (0, 0)
def firstL (h : Hst) (c : List Bool) : List V2 := (lostX h.l).map fun x => firstP h (atB (comL h.l c) x.1) x
theorem firstL_get {h : Hst} {c : List Bool} {k : Nat} {x : Pl} (hx : (lostX h.l)[k]? = some x) : (firstL h c)[k]? = some (firstP h (atB (comL h.l c) x.1) x) := by
 unfold firstL;rw [List.getElem?_map, hx]
 rfl
theorem firstL_len (h : Hst) (c : List Bool) : (firstL h c).length = (lostX h.l).length := by simp [firstL]
theorem wfirstof_any (A0 A1 A2 Ac : Option Addr) (n0 n1 n2 nc c0 c1 c2 cc B Bc : Nat) (h : Hst) (c : List Bool) (w : World) (hg : HIn w B A0 A1 A2 n0 n1 n2 h) (hm : mayH h = true) (hc : Row w Bc Ac (c.map Value.bool)) (hcl : c.length = nc) (hci : (whichL infoB h.l).length = nc) :
  Calls Tryz.prog 62 #[hval A0 A1 A2 n0 n1 n2 c0 c1 c2, .slice Ac nc cc] w fun e w' => ∃ V, (e = .returned (.agg #[.slice Ac nc cc, V]) ∧ w'.ownsRow w.heap.size 38 2 V (lostX h.l).length (edgeC (firstL h c))) ∧ Only [] w w' := by
 obtain ⟨i0, hi, hz0, hz1, hz2⟩ := info_parts info_val;have hn2 : n2 ≤ 40 := by rw [← hg.n2]; exact (may_ops hm).1
 have HCM := Hd (fun w' (O : Only [] w w') => wcommitted_any A0 A1 A2 Ac n0 n1 n2 nc c0 c1 c2 cc B Bc h c w' (hg.same O) (hc.only O (by simp)) hcl hci);have HLS := Hd (fun w' (O : Only [] w w') => klost_any A0 A1 A2 n0 n1 n2 c0 c1 c2 B h w' (hg.same O).at_.r2 hg.n2 (by omega) (fun t ht => Nat.le_trans ((may_ops hm).2.1 t ht) (by omega)));have HTR := Hd (fun (x : Pl) (t : Tx) (b : Bool) w' (hx : h.l[x.1]? = some t) (ho : t.ops[x.2.1]? = some x.2.2) (O : Only [] w w') => kfirst_any A0 A1 A2 n0 n1 n2 c0 c1 c2 B h x.1 x.2.1 t x.2.2 b w' (hg.same O) hx ho);have HLN := Hd (lostX_len (may_ops hm).1 (may_ops hm).2.1);have HN2 := Hd hg.n2;have HAL := Hd (firstL_len h c);rw [lostP_eq] at HLS;obtain ⟨nl, hnl⟩ : ∃ nl, (lostX h.l).length = nl := ⟨_, rfl⟩;have HNL := Hd hnl;rw [List.length_map, hnl] at HLS;rw [hnl];unfold hval at *;clear hg hm hc hnl;have HO1 := Hd ((((Only.refl [] w).alloc (.cells #[.slice A0 n0 c0, .slice A1 n1 c1, .slice A2 n2 c2] 25)).alloc (.cells #[.slice none 0 0, .slice none 0 0] 51)).alloc (.cells #[.slice Ac nc cc, .slice none 0 0] 51));have HB1 := Hd (((Blk.made w 25 #[.slice A0 n0 c0, .slice A1 n1 c1, .slice A2 n2 c2]).alloc (.cells #[.slice none 0 0, .slice none 0 0] 51)).alloc (.cells #[.slice Ac nc cc, .slice none 0 0] 51));have HR1 := Hd ((Blk.made (w.alloc (.cells #[.slice A0 n0 c0, .slice A1 n1 c1, .slice A2 n2 c2] 25)) 51 #[.slice none 0 0, .slice none 0 0]).alloc (.cells #[.slice Ac nc cc, .slice none 0 0] 51));have HW1 := Hd (Blk.made ((w.alloc (.cells #[.slice A0 n0 c0, .slice A1 n1 c1, .slice A2 n2 c2] 25)).alloc (.cells #[.slice none 0 0, .slice none 0 0] 51)) 51 #[.slice Ac nc cc, .slice none 0 0]);simp only [World.size_alloc] at HR1 HW1;go_enter Tryz.func62, Tryz.ntmps62;go_upto_region 2 with (fail)
 generalize (((w.alloc (.cells #[.slice A0 n0 c0, .slice A1 n1 c1, .slice A2 n2 c2] 25)).alloc (.cells #[.slice none 0 0, .slice none 0 0] 51)).alloc (.cells #[.slice Ac nc cc, .slice none 0 0] 51)) = w1 at *;generalize hgw : w.heap.size + 1 + 1 = gw at *;generalize hgr : w.heap.size + 1 = gr at *;generalize hgg : w.heap.size = g at *;have lB := HB1.out.lt;have y0 := HB1.out.at_ 0;have y1 := HB1.out.at_ 1;have y2 := HB1.out.at_ 2;simp at y0 y1 y2;go_wp2_with fail
 refine (HCM.out _ HO1.out).mono ?_;rintro e w2 ⟨VC, ⟨rfl, hc2⟩, O2⟩;obtain ⟨AC, cC, rfl, -, -, -, -⟩ := own_row hc2;have HC2 := Hd (own_low hc2 (show g ≤ w1.heap.size by have := HO1.out.size; omega));have HO2 := Hd (HO1.out.trans O2);have HB2 := Hd (O2.blk HB1.out (by simp));have HR2 := Hd (O2.blk HR1.out (by simp));have HW2 := Hd (O2.blk HW1.out (by simp));clear O2 HO1 HB1 HR1 HW1 hc2 HCM lB y0 y1 y2;have lB := HB2.out.lt;have y0 := HB2.out.at_ 0;have y1 := HB2.out.at_ 1;have y2 := HB2.out.at_ 2;simp at y0 y1 y2;go_wp2_with fail
 refine (HLS.out _ HO2.out).mono ?_;rintro e w3 ⟨VL, ⟨rfl, hl3⟩, O3⟩;obtain ⟨AL, cL, rfl, -, -, -, -⟩ := own_row hl3;have HL3 := Hd (own_low hl3 (show g ≤ w2.heap.size by have := HO2.out.size; omega));have HO3 := Hd (HO2.out.trans O3);have HB3 := Hd (O3.blk HB2.out (by simp));have HR3 := Hd (O3.blk HR2.out (by simp));have HW3 := Hd (O3.blk HW2.out (by simp));have HC3 := Hd (own_only HC2.out O3 (by simp));clear O3 HO2 HB2 HR2 HW2 HC2 hl3 HLS lB y0 y1 y2;go_wp2_with fail
 go_loopw [17] (fun iv wr => ∃ (k : Nat) (V : Value), iv = .int .i64 (k : Int) ∧ k ≤ nl ∧ Hid (wr.ownsRow g 38 2 V k (edgeC ((firstL h c).take k))) ∧ Hid (Blk wr gw 51 #[.slice Ac nc cc, V]) ∧ Hid (Blk wr gr 51 #[.slice none 0 0, .slice none 0 0]) ∧ Hid (wr.ownsRow g 4 1 (.slice AC n2 cC) n2 ((comL h.l c).map Value.bool)) ∧ Hid (wr.ownsRow g 27 2 (.slice AL nl cL) nl (placeC ((lostX h.l).map fun x => ((x.1 : Int), (x.2.1 : Int))))) ∧ Hid (Blk wr g 25 #[.slice A0 n0 c0, .slice A1 n1 c1, .slice A2 n2 c2]) ∧ Hid (Only [] w wr)) (fun iv _ => nl - (intOf iv).toNat)
 case atStart => exact ⟨0, .slice none 0 0, rfl, by omega, Hd (World.ownsRow_nil _ _ _ _), HW3, HR3, HC3, HL3, HB3, HO3⟩
 case round =>
  obtain ⟨k, V, rfl, hk, hV, hW, hR, hC, hL, hB, hO⟩ := hrel;clear HC3 HL3 HB3 HO3 HW3 HR3
  by_cases hlt : k < nl
  ·obtain ⟨x, hx⟩ : ∃ x, (lostX h.l)[k]? = some x := ⟨_, List.getElem?_eq_getElem (by rw [HNL.out]; exact hlt)⟩;obtain ⟨t, ht, ho, -⟩ := lostX_mem hx;have hi2 : x.1 < n2 := by rw [← HN2.out]; exact (List.getElem?_eq_some_iff.1 ht).1
   obtain ⟨b, hb⟩ : ∃ b, (comL h.l c)[x.1]? = some b := ⟨_, List.getElem?_eq_getElem (by rw [comL_len, HN2.out]; exact hi2)⟩;have HTK : Hid ((firstL h c).take (k + 1) = (firstL h c).take k ++ [firstX t x.2.1 x.2.2 b]) := Hd (by
    rw [List.take_add_one, firstL_get hx];unfold firstP atB;rw [ht, List.getD_eq_getElem?_getD, hb]
    rfl)
   have HT := Hd (fun w' (O : Only [] w w') => HTR.out x t b w' ht ho O);obtain ⟨b4, o4, rfl, -, hbr4, hc4⟩ := (own_row_at hL.out).1.open_ (k := k * 2) (by have e := edgeC_len ((lostX h.l).map fun x => ((x.1 : Int), (x.2.1 : Int))); rw [List.length_map, HNL.out] at e; exact Nat.lt_of_lt_of_eq (show k * 2 < nl * 2 by omega) e.symm);have hpl := placeC_at (l := (lostX h.l).map fun x => ((x.1 : Int), (x.2.1 : Int))) (k := k) (x := ((x.1 : Int), (x.2.1 : Int))) (by rw [List.getElem?_map, hx]; rfl);have p0 := hc4 _ _ hpl.1;have p1 := hc4 _ _ hpl.2;rw [← Nat.add_assoc] at p1;obtain ⟨b5, o5, rfl, -, hbr5, hc5⟩ := (own_row_at hC.out).1.open_ (k := x.1) (by rw [List.length_map, comL_len, HN2.out]; exact hi2);have q0 := hc5 x.1 _ (by rw [List.getElem?_map, hb]; rfl);have HQ0 := Hd q0;obtain ⟨i, j, o⟩ := x;dsimp only at *;generalize firstX t j o b = T at *;obtain ⟨T1, T2⟩ := T;unfold agV at HT;dsimp only at HT;obtain ⟨AV, cV, rfl, -, -, -, -⟩ := own_row hV.out;clear hx ht ho hb hc4 hc5 hpl q0;have h01 : (k : Int) < (nl : Int) := by omega
   have hk0 : (0 : Int) ≤ (k : Int) := Int.natCast_nonneg _;have hwk : IntKind.i64.wrap ((k : Int) + 1) = (k : Int) + 1 := IntWalk.i64_in _ (by have := HLN.out; have := HNL.out; omega);go_upto_region 6 with (fail)
   have O4 : Only [] wr (wr.alloc (.cells #[.int .i64 (i : Int), .int .i64 (j : Int)] 27)) := (Only.refl [] wr).alloc _;have HP4 := Hd (Blk.made wr 27 #[.int .i64 (i : Int), .int .i64 (j : Int)]);have HO4 := Hd (hO.out.trans O4);have HB4 := Hd (O4.blk hB.out (by simp));have HR4 := Hd (O4.blk hR.out (by simp));have HW4 := Hd (O4.blk hW.out (by simp));have HV4 := Hd (own_only hV.out O4 (by simp));have HC4 := Hd (own_only hC.out O4 (by simp));have HL4 := Hd (own_only hL.out O4 (by simp));have HQ4 := Hd ((O4.cell (p := ⟨b5, o5 + i, none⟩) hbr5 (by simp)).trans HQ0.out);have hb4 : b5 < (wr.alloc (.cells #[.int .i64 (i : Int), .int .i64 (j : Int)] 27)).heap.size := by have := O4.size; omega
   have hi0 : (0 : Int) ≤ (i : Int) := Int.natCast_nonneg _;have hi3 : (i : Int) < (n2 : Int) := by omega
   have HNH : Hid (g ∉ (Value.slice AV k cV).ownBlock.toList) := Hd (own_apart HV4.out HB4.out (by decide));have HNW : Hid (gw ∉ (Value.slice AV k cV).ownBlock.toList) := Hd (own_apart HV4.out HW4.out (by decide));have HNP : Hid (wr.heap.size ∉ (Value.slice AV k cV).ownBlock.toList) := Hd (own_apart HV4.out HP4.out (by decide));have HNC : Hid (b5 ∉ (Value.slice AV k cV).ownBlock.toList) := Hd (own_two HC4.out HV4.out (by decide) b5 rfl);clear O4 hB hV hR hW hC hL hO HQ0 hbr4 hbr5 p0 p1;generalize (wr.alloc (.cells #[.int .i64 (i : Int), .int .i64 (j : Int)] 27)) = w4 at *;generalize wr.heap.size = gp at *;have RD0 := Hd fun wq (hSw : Only (Value.slice AV k cV).ownBlock.toList w4 wq) => And.intro (Bk3 (hSw.blk HB4.out HNH.out)) (And.intro (Bk2 (hSw.blk HP4.out HNP.out)) (And.intro (Bk1 (hSw.blk HW4.out HNW.out) 1) ((hSw.cell (p := ⟨b5, o5 + i, none⟩) hb4 HNC.out).trans HQ4.out)));refine wp_region_noPanic ?_;refine wp_region_timed (F := [⟨[], [13], fun w' => Only (Value.slice AV k cV).ownBlock.toList w4 w'⟩]) (by kernel_rfl) (th1 ((Only.refl (Value.slice AV k cV).ownBlock.toList w4).drew)) ?_;have OW : Only [] w4 w4.drew := (Only.refl [] w4).drew;generalize w4.drew = wz at *;refine tp (i := 0) ?_;(try simp only [tdz]);refine trd (i := 1) (v := ?_) 0 ?_ ?_;rotate_left
   ·(intro wq q; obtain ⟨⟨lb_H, y0, y1, y2⟩, ⟨lb_P, p0, p1⟩, ⟨lb_W, x1⟩, q0⟩ := RD0.out wq q; simp at y0 y1 y2; simp at p0 p1; simp at x1; clear q; go_simp; try with_reducible rfl)
   (try simp only [tdz]);refine trd (i := 2) (v := ?_) 0 ?_ ?_;rotate_left
   ·(intro wq q; obtain ⟨⟨lb_H, y0, y1, y2⟩, ⟨lb_P, p0, p1⟩, ⟨lb_W, x1⟩, q0⟩ := RD0.out wq q; simp at y0 y1 y2; simp at p0 p1; simp at x1; clear q; go_simp; try with_reducible rfl)
   (try simp only [tdz]);refine trd (i := 3) (v := ?_) 0 ?_ ?_;rotate_left
   ·(intro wq q; obtain ⟨⟨lb_H, y0, y1, y2⟩, ⟨lb_P, p0, p1⟩, ⟨lb_W, x1⟩, q0⟩ := RD0.out wq q; simp at y0 y1 y2; simp at p0 p1; simp at x1; clear q; go_simp; try with_reducible rfl)
   (try simp only [tdz]);refine tp (i := 4) ?_;(try simp only [tdz]);refine tp (i := 5) ?_;(try simp only [tdz]);refine trd (i := 6) (v := ?_) 0 ?_ ?_;rotate_left
   ·(intro wq q; obtain ⟨⟨lb_H, y0, y1, y2⟩, ⟨lb_P, p0, p1⟩, ⟨lb_W, x1⟩, q0⟩ := RD0.out wq q; simp at y0 y1 y2; simp at p0 p1; simp at x1; clear q; go_simp; try with_reducible rfl)
   (try simp only [tdz]);refine tp (i := 7) ?_;(try simp only [tdz]);refine trd (i := 8) (v := ?_) 0 ?_ ?_;rotate_left
   ·(intro wq q; obtain ⟨⟨lb_H, y0, y1, y2⟩, ⟨lb_P, p0, p1⟩, ⟨lb_W, x1⟩, q0⟩ := RD0.out wq q; simp at y0 y1 y2; simp at p0 p1; simp at x1; clear q; go_simp; try with_reducible rfl)
   (try simp only [tdz]);refine tst (i := 9) fun K hK => ?_;go_simp;refine (HT.out _ (HO4.out.trans OW)).mono ?_;rintro e w5 ⟨rfl, O5⟩;have OW1 := OW.trans O5;clear O5;refine hK.out _ _ (th1 (OW1.wide (fun i hi => by cases hi))) ?_;clear hK K;(try simp only [tdz]);refine tst (i := 10) fun K hK => ?_;go_simp;have OW2 := OW1.alloc (.cells #[.int .i64 T1, .int .i64 T2] 38);have RW2 := row_lit w5 38 #[.int .i64 T1, .int .i64 T2];generalize w5.alloc (.cells #[.int .i64 T1, .int .i64 T2] 38) = w6 at *;generalize w5.heap.size = gl at *;refine hK.out _ _ (th1 (OW2.wide (fun i hi => by cases hi))) ?_;clear hK K;(try simp only [tdz]);refine tst (i := 11) fun K hK => ?_;refine step_append_row _ rfl (.tmp 22) (.tmp 31) 33 rfl g 38 i0 _ 2 16 Tryz.underlying33 hi hz0 hz1 hz2 rfl (by omega) _ k (edgeC ((firstL h c).take k)) (by rfl) (own_only HV4.out OW2 (by simp)) _ (some ⟨gl, 0, none⟩) 1 1 [.int .i64 T1, .int .i64 T2] (by rfl) (by rfl) RW2 (by intro u hu; simp at hu; rcases hu with rfl | rfl <;> rfl) (by have := HLN.out; have := HNL.out; unfold maxLen; omega) (by have := HLN.out; have := HNL.out; omega) (by have := (HO4.out.trans OW2).size; omega) ?_;intro V9 w9 hown9 hgrow9 hat9;obtain ⟨A9, c9, rfl, -, -, -, -⟩ := own_row hown9;have OG : Only (Value.slice AV k cV).ownBlock.toList w6 w9 := only_grown hgrow9;have HV6 := own_only HV4.out OW2 (by simp);have h8 := OW2.blk HW4.out (by simp);have HW9 := OG.blk h8 (own_apart HV6 h8 (by decide));have x1 := HW9.at_ 1;have lX := HW9.lt;have fx := HW9.free 1;simp at x1;refine hK.out _ _ (th1 ((OW2.wide (fun i hi => by cases hi)).trans OG)) ?_;clear hK K;(try simp only [tdz]);refine tp (i := 12) ?_;(try simp only [tdz]);refine tst (i := 13) fun K hK => ?_;go_simp;skip;refine hK.out _ _ (timed_over (by kernel_rfl) (timed_nil)) ?_;clear hK K;(try simp only [tdz]);refine timed_done (by kernel_rfl) ?_ _;refine NoPanic.normal ?_;have HV9 := own_only hown9 ((Only.refl [gw] w9).put (p := ⟨gw, 1, none⟩) (fun _ => by simp) (.slice A9 (k + 1) c9)) (fun x hx hm => by simp at hm; subst hm; exact own_apart hown9 HW9 (by decide) (by rw [hx]; simp));have O10 : Only [gw] w9 (w9.setCell ⟨gw, 1, none⟩ (.slice A9 (k + 1) c9)) := (Only.refl [gw] w9).put (fun _ => by simp) _;have HW10 : Hid (Blk (w9.setCell ⟨gw, 1, none⟩ (.slice A9 (k + 1) c9)) gw 51 #[.slice Ac nc cc, .slice A9 (k + 1) c9]) := Hd (HW9.put 1 (.slice A9 (k + 1) c9));have h6 := own_only HC4.out OW2 (by simp);have h6b := own_only h6 OG (own_two h6 HV6 (by decide));have HC10 := Hd (owb h6b HW9 O10);have h7 := own_only HL4.out OW2 (by simp);have h7b := own_only h7 OG (own_two h7 HV6 (by decide));have HL10 := Hd (owb h7b HW9 O10);have h5 := OW2.blk HB4.out (by simp);have h5b := OG.blk h5 (own_apart HV6 h5 (by decide));have HB10 := Hd (O10.blk h5b (by simp; omega));have h3 := OW2.blk HR4.out (by simp);have h3b := OG.blk h3 (own_apart HV6 h3 (by decide));have HR10 := Hd (O10.blk h3b (by simp; omega));have HO9 := (HO4.out.trans OW2).step OG (fun i hi hl => by have := (HV6.lt i (by simpa using hi)).1; omega);have HO10 := Hd (HO9.step O10 (fun i hi hl => by simp at hi; omega));have HV10 := Hd HV9;rw [show edgeC ((firstL h c).take k) ++ [Value.int .i64 T1, .int .i64 T2] = edgeC ((firstL h c).take (k + 1)) by rw [HTK.out, edgeC_append]; rfl] at HV10;clear HV9 O10 h6 h6b h7 h7b h5 h5b h3 h3b HO9 HB4 HV4 HR4 HW4 HC4 HL4 HO4 OW2 OG hown9 hgrow9 hat9 HQ4 HV6 h8 HW9 x1 lX fx;go_wp2
   go_roundw
   case rel => exact ⟨k + 1, _, by go_num, by omega, HV10, HW10, HR10, HC10, HL10, HB10, HO10⟩
   case measure => simp [intOf]; omega
  ·have hkn : k = nl := by omega
   subst hkn;have hd2 : decide ((k : Int) < (k : Int)) = false := by simp
   rw [List.take_of_length_le (by rw [HAL.out, HNL.out]; omega)] at hV;obtain ⟨AV, cV, rfl, -, -, -, -⟩ := own_row hV.out;have lW := hW.out.lt;have x0 := hW.out.at_ 0;have x1 := hW.out.at_ 1;simp at x0 x1;go_wp2_with (refine wpList_store_blk rfl 51 (.tmp 4) (.tmp 35) rfl gr 51 _ #[.slice Ac nc cc, .slice AV k cV] rfl rfl hR.out rfl (by kernel_rfl) (by kernel_rfl) ?_; intro w9 b9 o9; have HB9 := Hd b9; have HN9 := Hd o9; clear b9 o9)
   have HV9 := owb hV.out hR.out HN9.out;refine bodyPost_ret (results_row1 Tryz.results62 _ _ gr 51 #[.slice Ac nc cc, .slice AV k cV] _ rfl HB9.out Tryz.underlying51 rfl (by kernel_rfl)) rfl ?_;exact ⟨_, ⟨rfl, by rw [hgg]; exact HV9⟩, hO.out.step HN9.out (fun i hi hl => by simp at hi; omega)⟩
structure TrAt (w : World) (gc B nl : Nat) (xs : List SlA) : Prop where
 box : ∃ AV cV, Blk w gc 54 #[.slice AV nl cV] ∧ Row w B AV (xs.map slC)
 len : xs.length = nl
 rows : ∀ x ∈ xs, Row w B x.A (edgeC x.l)
 lt : gc < B
 few : ∀ x ∈ xs, x.l.length ≤ 1000
theorem TrAt.only {w w' : World} {gc B nl : Nat} {xs : List SlA} {S : List Nat} (h : TrAt w gc B nl xs) (ho : Only S w w') (hS : ∀ i ∈ S, B ≤ i) : TrAt w' gc B nl xs := by
 obtain ⟨⟨AV, cV, hb, hr⟩, h2, h3, h4, h5⟩ := h;exact ⟨⟨AV, cV, ho.blk hb (fun hm => by have := hS _ hm; omega), hr.only ho hS⟩, h2, fun x hx => (h3 x hx).only ho hS, h4, h5⟩
theorem nexttr_any (gc B nl : Nat) (xs : List SlA) (i : Nat) (x : SlA) (w : World) (hT : TrAt w gc B nl xs) (hx : xs[i]? = some x) :
  Calls Tryz.prog 63 #[.int .i64 (i : Int), .pointer (some ⟨gc, 0, none⟩)] w fun e w' => e = .returned (slC x) ∧ Only [] w w' := by
 obtain ⟨⟨AV, cV, hb, hr⟩, hl, -, -⟩ := hT;have hi := (List.getElem?_eq_some_iff.1 hx).1;obtain ⟨b, off, rfl, -, hbw, hc⟩ := hr.open_ (k := i) (by rw [List.length_map]; exact hi);have c0 := hc i _ (by rw [List.getElem?_map, hx]; rfl);have lB := hb.lt;have y0 := hb.at_ 0;simp at y0;have hi0 : (0 : Int) ≤ (i : Int) := Int.natCast_nonneg _;have hi1 : (i : Int) < (nl : Int) := by omega
 unfold slC at *;obtain ⟨l, A, cp⟩ := x;dsimp only at *;generalize l.length = m at *;clear hb hr hc hx hl;go_enter Tryz.func63, Tryz.ntmps63;go_wp2
 go_ret
 exact ⟨rfl, Only.refl [] w⟩
def isB (vals : List (List V2)) (l : List V2) : Bool := (l.zip vals).all fun p => decide (p.1 ∈ p.2)
theorem zip_take_succ {l : List V2} {vals : List (List V2)} {k : Nat} {x : V2} {vs : List V2} (hx : l[k]? = some x) (hv : vals[k]? = some vs) : (l.take (k + 1)).zip vals = (l.take k).zip vals ++ [(x, vs)] := by
 induction l generalizing vals k with
 | nil => simp at hx
 | cons y l ih =>
  cases vals with
  | nil => simp at hv
  | cons us vals =>
   cases k with
   | zero =>
    simp at hx hv;simp [hx, hv]
   | succ k =>
    simp only [List.getElem?_cons_succ] at hx hv;simp only [List.take_succ_cons, List.zip_cons_cons, List.cons_append];rw [ih hx hv]
theorem isB_take {vals : List (List V2)} {l : List V2} {k : Nat} {x : V2} {vs : List V2} (hx : l[k]? = some x) (hv : vals[k]? = some vs) : isB vals (l.take (k + 1)) = (isB vals (l.take k) && decide (x ∈ vs)) := by
 unfold isB;rw [zip_take_succ hx hv, List.all_append];simp
theorem isB_iff {vals : List (List V2)} {l : List V2} : isB vals l = true ↔ ∀ (i : Nat) (x : V2) (vs : List V2), l[i]? = some x → vals[i]? = some vs → x ∈ vs := by
 unfold isB;rw [List.all_eq_true]
 constructor
 ·intro h i x vs hx hv;have hm : (x, vs) ∈ l.zip vals := List.mem_of_getElem? (i := i) (by rw [List.getElem?_zip_eq_some]; exact ⟨hx, hv⟩)
  simpa using h _ hm
 ·intro h p hp;obtain ⟨i, hi⟩ := List.mem_iff_getElem?.1 hp;obtain ⟨h1, h2⟩ := List.getElem?_zip_eq_some.1 hi
  simpa using h i _ _ h1 h2
theorem isB_false {vals : List (List V2)} {l : List V2} {k : Nat} {x : V2} {vs : List V2} (hx : l[k]? = some x) (hv : vals[k]? = some vs) (h : ¬ x ∈ vs) : isB vals l = false := by
 cases hb : isB vals l with
 | false => rfl
 | true => exact absurd (isB_iff.1 hb k x vs hx hv) h
theorem vis_any (A : Option Addr) (m c Bl gc B : Nat) (l : List V2) (xs : List SlA) (w : World) (hg : Row w Bl A (edgeC l)) (hm : l.length = m) (hM : m ≤ 100000) (hT : TrAt w gc B m xs) :
  Calls Tryz.prog 64 #[.slice A m c, .func (.func 63) #[] #[.pointer (some ⟨gc, 0, none⟩)]] w fun e w' => e = .returned (.bool (isB (xs.map (fun x => x.l)) l)) ∧ Only [] w w' := by
 have HG := Hd hg;have HM := Hd hm;have HT := Hd hT;clear hg hm hT;go_enter Tryz.func64, Tryz.ntmps64;go_wp2_with fail
 go_loopw [9] (fun iv wr => ∃ k : Nat, iv = .int .i64 (k : Int) ∧ k ≤ m ∧ Hid (isB (xs.map (fun x => x.l)) (l.take k) = true) ∧ Hid (Only [] w wr)) (fun iv _ => m - (intOf iv).toNat)
 case atStart => exact ⟨0, rfl, by omega, Hd rfl, Hd (Only.refl [] w)⟩
 case round =>
  obtain ⟨k, rfl, hk, hn, hO⟩ := hrel
  by_cases hlt : k < m
  ·obtain ⟨u, hu⟩ : ∃ u, l[k]? = some u := ⟨_, List.getElem?_eq_getElem (by rw [HM.out]; exact hlt)⟩;obtain ⟨x, hx⟩ : ∃ x, xs[k]? = some x := ⟨_, List.getElem?_eq_getElem (by rw [HT.out.len]; exact hlt)⟩;have hxm := List.mem_of_getElem? hx;have hv : (xs.map (fun x => x.l))[k]? = some x.l := by rw [List.getElem?_map, hx]; rfl
   have HTK := Hd (isB_take (k := k) hu hv);have HF := Hd (fun h => isB_false hu hv h);have HNX := Hd (fun w' (O : Only [] w w') => nexttr_any gc B m xs k x w' (HT.out.only O (by simp)) hx);have HCO := Hd (fun w' (O : Only [] w w') => vcontains_any x.A x.l.length x.cp B x.l u w' ((HT.out.rows x hxm).only O (by simp)) rfl (Nat.le_trans (HT.out.few x hxm) (by omega)));unfold slC agV at *;obtain ⟨b, off, rfl, hbB, hbw, hc⟩ := (HG.out.only hO.out (by simp)).open_ (k := k * 2) (by rw [edgeC_len, HM.out]; omega);have hE := edgeC_get l k u hu;have c0 := hc _ _ hE.1;have c1 := hc _ _ hE.2;rw [← Nat.add_assoc] at c1;have h01 : (k : Int) < (m : Int) := by omega
   have hk0 : (0 : Int) ≤ (k : Int) := Int.natCast_nonneg _;have hwk : IntKind.i64.wrap ((k : Int) + 1) = (k : Int) + 1 := IntWalk.i64_in _ (by omega);obtain ⟨u1, u2⟩ := u;dsimp only at *;clear hc hE hu hx hv hxm;go_upto_region 4 with (fail)
   have O4 : Only [] wr (wr.alloc (.cells #[.int .i64 u1, .int .i64 u2] 38)) := (Only.refl [] wr).alloc _;have HB4 := Hd (Blk.made wr 38 #[.int .i64 u1, .int .i64 u2]);have HO4 := Hd (hO.out.trans O4);clear O4 c0 c1 hO;generalize (wr.alloc (.cells #[.int .i64 u1, .int .i64 u2] 38)) = w4 at *;generalize wr.heap.size = g4 at *;obtain ⟨d, hd⟩ : ∃ d, d = decide ((u1, u2) ∈ x.l) := ⟨_, rfl⟩;rw [← hd] at HCO HTK;have HD := Hd hd;clear hd;refine wp_region_noPanic ?_;refine wp_region_timed (F := [⟨[], [], fun w' => Only [] w4 w'⟩]) (by kernel_rfl) (th1 ((Only.refl [] w4).drew)) ?_;have OW : Only [] w4 w4.drew := (Only.refl [] w4).drew;generalize w4.drew = wz at *;refine tp (i := 0) ?_;(try simp only [tdz]);refine tp (i := 1) ?_;(try simp only [tdz]);refine trd (i := 3) (v := ?_) 0 ?_ ?_;rotate_left
   ·(intro wq hSw; obtain ⟨lb_B, y0, y1⟩ := Bk2 (hSw.blk HB4.out (by simp)); simp at y0 y1; clear hSw; go_simp; try with_reducible rfl)
   (try simp only [tdz]);refine tst (i := 2) fun K hK => ?_;go_simp;refine (HNX.out _ (HO4.out.trans OW)).mono ?_;rintro e w5 ⟨rfl, O5⟩;have OW1 := OW.trans O5;clear O5;refine hK.out _ _ (th1 (OW1)) ?_;clear hK K;(try simp only [tdz]);refine tst (i := 4) fun K hK => ?_;go_simp;refine (HCO.out _ (HO4.out.trans OW1)).mono ?_;rintro e w6 ⟨rfl, O6⟩;have OW2 := OW1.trans O6;clear O6;refine hK.out _ _ (th1 (OW2)) ?_;clear hK K;(try simp only [tdz]);refine tp (i := 5) ?_;(try simp only [tdz]);refine timed_done (by kernel_rfl) ?_ _;refine NoPanic.normal ?_;have HO6 := Hd (HO4.out.trans OW2);clear OW OW1 OW2 HO4 HB4 HNX HCO
   cases d with
   | true =>
    have HN := Hd (HTK.out.trans (by rw [hn.out]));clear hn HTK HF;go_wp2
    go_roundw
    case rel => exact ⟨k + 1, by go_num, by omega, HN, HO6⟩
    case measure => simp [intOf]; omega
   | false =>
    have HE := Hd (HF.out (of_decide_eq_false HD.out.symm));clear hn HTK HF;go_wp2
    go_ret
    exact ⟨by rw [HE.out]; rfl, HO6.out⟩
  ·have hkm : k = m := by omega
   subst hkm;have hd2 : decide ((k : Int) < (k : Int)) = false := by simp
   rw [List.take_of_length_le (by rw [HM.out]; omega)] at hn;go_wp2
   go_ret
   exact ⟨by rw [hn.out]; rfl, hO.out⟩
end Go.Proofs.YtjfbeeogiejopaaGreatDoor


set_option linter.unusedVariables false
set_option linter.unusedSimpArgs false
namespace Go.Proofs.YtjfbeeogiejopaaGreatDoor
open Go.RowKit
section
variable {w : World} {base : Nat} {e : TypeId} {size : Nat} {v : Value} {n : Nat} {xs : List Value} {g : Nat}
theorem own_there (h : w.ownsRow base e size v n xs) (hg : v.ownBlock = some g) {o k : Nat} (hk : o + k ≤ xs.length) : w.there g o k := fun j hj => by
 have := own_cell h hg (List.getElem?_eq_getElem (i := o + j) (by omega));exact ⟨by rw [this.1]; rfl, this.2⟩
theorem own_set2 (h : w.ownsRow base e size v n xs) (hg : v.ownBlock = some g) {o : Nat} (hk : o + 2 ≤ xs.length) (a b : Value) :
  (w.setCells g o [a, b]).ownsRow base e size v n ((xs.set o a).set (o + 1) b) :=
 own_set (own_set h hg (by omega) a) hg (by rw [List.length_set]; omega) b
end
end Go.Proofs.YtjfbeeogiejopaaGreatDoor
