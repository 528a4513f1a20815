/- Parts. -/
import Derived.Test.YtjfbeeogiejopaaGreatDoorWorldNextCardK29
set_option maxRecDepth 10000
set_option maxHeartbeats 16000000
set_option linter.unusedVariables false
set_option linter.unusedSimpArgs false
namespace Go.Proofs.YtjfbeeogiejopaaGreatDoor
open Go.RowKit
open Go.Lib hiding intOf
attribute [local go_sem ↓] Go.wp_at_zero Go.wp_at_succ
theorem bitsN_get : ∀ (k m i : Nat), i < k → (bitsN k m)[i]? = some (decide (m / 2 ^ i % 2 = 1))
 | 0, _, _, h => by omega
 | k + 1, m, 0, _ => by simp [bitsN]
 | k + 1, m, i + 1, h => by
  have := bitsN_get k (m / 2) i (by omega);rw [show bitsN (k + 1) m = decide (m % 2 = 1) :: bitsN k (m / 2) from rfl, List.getElem?_cons_succ, this, Nat.div_div_eq_div_mul, Nat.pow_succ, Nat.mul_comm 2]
theorem fill_bool {l : List Bool} {n k : Nat} {y : Bool} (hl : l.length = n) (hy : l[k]? = some y) : (l.take k ++ List.replicate (n - k) false).set k y = l.take (k + 1) ++ List.replicate (n - (k + 1)) false := by
 have hk := (List.getElem?_eq_some_iff.1 hy).1;have ht : (l.take k).length = k := by rw [List.length_take]; omega
 rw [List.set_append_right _ _ (by omega), ht, Nat.sub_self, show n - k = n - (k + 1) + 1 by omega, List.replicate_succ, List.set_cons_zero, List.take_add_one, hy, List.append_assoc]
 rfl
def oneQ (vals : List (List V2)) (k : Nat) : Nat := ((vals.take k).map List.length).foldl (fun n x => capN (n * x)) 1
theorem oneQ_succ {vals : List (List V2)} {k : Nat} {vs : List V2} (h : vals[k]? = some vs) : oneQ vals (k + 1) = capN (oneQ vals k * vs.length) := by
 unfold oneQ;rw [List.take_add_one, h, List.map_append, List.foldl_append]
 rfl
theorem oneQ_le (vals : List (List V2)) : ∀ k, oneQ vals k ≤ 1000000
 | 0 => by simp [oneQ]
 | k + 1 => by
  cases h : vals[k]? with
  | none =>
   have := oneQ_le vals k;have h2 := List.getElem?_eq_none_iff.1 h;unfold oneQ at this ⊢
   rwa [List.take_of_length_le (by omega), ← List.take_of_length_le (i := k) h2]
  | some vs => rw [oneQ_succ h]; exact capN_le _
theorem rcntQ_le (h : Hst) : ∀ m, rcntQ h m ≤ 1000000
 | 0 => by simp [rcntQ]
 | m + 1 => by rw [rcntQ_succ]; exact capN_le _
theorem rcount16_any (A0 A1 A2 : Option Addr) (n0 n1 n2 c0 c1 c2 B : Nat) (h : Hst) (w : World) (hg : HIn w B A0 A1 A2 n0 n1 n2 h) (hm : mayH h = true) (h6 : infosN h ≤ 6) :
  Calls Tryz.prog 37 #[hval A0 A1 A2 n0 n1 n2 c0 c1 c2] w fun e w' => e = .returned (.int .i64 ((countW h : Nat) : Int)) ∧ Only [] w w' := by
 have hn2 : n2 ≤ 40 := by rw [← hg.n2]; exact (may_ops hm).1
 have HIN := Hd (fun w' (O : Only [] w w') => rinfos_any A0 A1 A2 n0 n1 n2 c0 c1 c2 B h w' (hg.same O).at_.r2 hg.n2 (by omega));obtain ⟨ni, hni⟩ : ∃ ni, infosN h = ni := ⟨_, rfl⟩;have HBE := Hd (fun (Ac : Option Addr) (cc Bc : Nat) (c : List Bool) w' (O : Only [] w w') (hc : Row w' Bc Ac (c.map Value.bool)) (hcl : c.length = ni) => rbegin16_any A0 A1 A2 Ac n0 n1 n2 ni c0 c1 c2 cc B Bc h c w' (hg.same O) hm hc hcl hni);have HTR := Hd (fun (Ac Al : Option Addr) (nl cc cl Bc : Nat) (c : List Bool) w' (O : Only [] w w') (hc : Row w' Bc Ac (c.map Value.bool)) (hcl : c.length = ni) => rtries16_any A0 A1 A2 Ac Al n0 n1 n2 ni nl c0 c1 c2 cc cl B Bc h c w' (hg.same O) hm hc hcl hni);have HEQ := Hd (rcount_eq hm);have HFW := Hd (fun c => allT_few (may_ops hm).1 c);have HLN := Hd (lostX_len (may_ops hm).1 (may_ops hm).2.1);rw [hni] at h6 HEQ;have HRS := Hd (fun m => rcntQ_succ h m);have HRL := Hd (fun m => rcntQ_le h m);rw [hni] at HRS;rw [← HEQ.out];have hmk := make_bools ni (by omega);have hni2 : (whichL (fun t : Tx => decide (t.f = 3)) h.l).length = ni := hni;rw [hni2] at HIN;unfold hval at *;clear hg hm hni hni2 HEQ;have HO1 := Hd ((Only.refl [] w).alloc (.cells #[.slice A0 n0 c0, .slice A1 n1 c1, .slice A2 n2 c2] 25));have HB1 := Hd (Blk.made w 25 #[.slice A0 n0 c0, .slice A1 n1 c1, .slice A2 n2 c2]);go_enter Tryz.func37, Tryz.ntmps37;go_upto_region 1 with (fail)
 generalize (w.alloc (.cells #[.slice A0 n0 c0, .slice A1 n1 c1, .slice A2 n2 c2] 25)) = w1 at *;generalize hgg : w.heap.size = g at *;have lHB_ := HB1.out.lt;have y0 := HB1.out.at_ 0;have y1 := HB1.out.at_ 1;have y2 := HB1.out.at_ 2;simp at y0 y1 y2;go_wp2_with fail
 refine (HIN.out _ HO1.out).mono ?_;rintro e w2 ⟨Ai, ci, ⟨rfl, -⟩, O2⟩;clear lHB_ y0 y1 y2;have HO2 := Hd (HO1.out.trans O2);have HB2 := Hd (O2.blk HB1.out (by simp));clear HO1 HB1;clear O2 HIN;have d19 : decide ((ni : Int) > 19) = false := by simp; omega
 have d19' : decide ((19 : Int) < (ni : Int)) = false := by simp; omega
 have d19'' : decide (19 < ni) = false := by simp; omega
 go_upto_region 5 with (fail)
 clear d19 d19' d19'';go_wp2_with fail
 go_loopw [5, 6] (fun mv iv wr => ∃ k : Nat, mv = .int .i64 ((2 ^ k : Nat) : Int) ∧ iv = .int .i64 (k : Int) ∧ k ≤ ni ∧ wr = w2) (fun _ iv _ => ni - (intOf iv).toNat)
 case atStart => exact ⟨0, rfl, rfl, by omega, rfl⟩
 case round =>
  obtain ⟨k, rfl, rfl, hk, rfl⟩ := hrel;obtain ⟨mk, hmk2⟩ : ∃ mk, 2 ^ k = mk := ⟨_, rfl⟩;have hmk6 : mk ≤ 64 := by rw [← hmk2]; exact Nat.pow_le_pow_right (n := 2) (by omega) (show k ≤ 6 by omega)
  have hmk1 : 2 ^ (k + 1) = 2 * mk := by rw [Nat.pow_succ, hmk2, Nat.mul_comm]
  have HMS := Hd hmk1;rw [hmk2];have hk0 : (0 : Int) ≤ (k : Int) := Int.natCast_nonneg _;have hwk : IntKind.i64.wrap ((k : Int) + 1) = (k : Int) + 1 := IntWalk.i64_in _ (by omega);clear hmk1
  by_cases hlt : k < ni
  ·have h01 : (k : Int) < (ni : Int) := by omega
   obtain ⟨m2, hm2⟩ : ∃ m2, 2 * mk = m2 := ⟨_, rfl⟩;have hwm : IntKind.i64.wrap (2 * (mk : Int)) = (m2 : Int) := by rw [IntWalk.i64_in _ (by omega)]; omega
   have HM2 := Hd hm2;clear hmk2 hm2;go_wp2
   go_roundw
   case rel => exact ⟨k + 1, by rw [HMS.out, HM2.out], by go_num, by omega, trivial⟩
   case measure => simp [intOf]; omega
  ·have hkn : ni = k := by omega
   subst hkn;have hd2 : decide ((ni : Int) < (ni : Int)) = false := by simp
   have HMM := Hd hmk2;clear hmk2 HMS;have hmz : 0 < mk := by rw [← HMM.out]; exact Nat.pow_pos (by omega)
   go_wp2_with fail
   go_loopw [3, 7] (fun nv mv wr => ∃ m : Nat, nv = .int .i64 ((rcntQ h m : Nat) : Int) ∧ mv = .int .i64 (m : Int) ∧ m ≤ mk ∧ Hid (Blk wr g 25 #[.slice A0 n0 c0, .slice A1 n1 c1, .slice A2 n2 c2]) ∧ Hid (Only [] w wr)) (fun _ mv _ => mk - (intOf mv).toNat)
   case atStart => exact ⟨0, rfl, rfl, by omega, HB2, HO2⟩
   case round =>
    obtain ⟨m, rfl, rfl, hm, hB, hO⟩ := hrel;clear HB2 HO2
    by_cases hlt2 : m < mk
    ·have h02 : (m : Int) < (mk : Int) := by omega
     have hm0 : (0 : Int) ≤ (m : Int) := Int.natCast_nonneg _;have hwm : IntKind.i64.wrap ((m : Int) + 1) = (m : Int) + 1 := IntWalk.i64_in _ (by omega);have HRC := Hd (HRS.out m);have hrl := HRL.out m;generalize hrq : rcntQ h m = rq at *;clear hrq;obtain ⟨wo, hwo⟩ : ∃ wo : World, wo = wr := ⟨_, rfl⟩;subst hwo;have hgo : g ≤ wo.heap.size := by have := hO.out.size; omega
     go_upto_region 13 with (fail)
     have hG := Hd (Blk.made wo 4 (boolsC (List.replicate ni false)));have OA : Only [] wo (wo.alloc (.cells (boolsC (List.replicate ni false)) 4)) := (Only.refl [] wo).alloc _;have hB3 := Hd (OA.blk hB.out (by simp));have hO3 := Hd (hO.out.trans OA);clear hB hO;have hgc : g ≤ wo.heap.size := by have := hgo; omega
     clear OA;generalize (wo.alloc (.cells (boolsC (List.replicate ni false)) 4)) = w3 at *;generalize wo.heap.size = gc at *;go_wp2_with fail
     go_loopw [9, 10] (fun xv iv wr => ∃ i : Nat, xv = .int .i64 ((m / 2 ^ i : Nat) : Int) ∧ iv = .int .i64 (i : Int) ∧ i ≤ ni ∧ Hid (Blk wr gc 4 (boolsC ((bitsN ni m).take i ++ List.replicate (ni - i) false))) ∧ Hid (Blk wr g 25 #[.slice A0 n0 c0, .slice A1 n1 c1, .slice A2 n2 c2]) ∧ Hid (Only [] w wr)) (fun _ iv _ => ni - (intOf iv).toNat)
     case atStart => exact ⟨0, by simp, rfl, by omega, by simpa using hG, hB3, hO3⟩
     case round =>
      obtain ⟨i, rfl, rfl, hi, hG, hB, hO⟩ := hrel;clear hB3 hO3
      by_cases hlt3 : i < ni
      ·have h03 : (i : Int) < (ni : Int) := by omega
       have hi0 : (0 : Int) ≤ (i : Int) := Int.natCast_nonneg _;have hwi : IntKind.i64.wrap ((i : Int) + 1) = (i : Int) + 1 := IntWalk.i64_in _ (by omega);have hbg := bitsN_get ni m i hlt3;have HFB := Hd (fill_bool (bitsN_len ni m) hbg);have HX2 : Hid (m / 2 ^ (i + 1) = m / 2 ^ i / 2) := Hd (by rw [Nat.div_div_eq_div_mul, Nat.pow_succ]);have hxm : m / 2 ^ i ≤ m := Nat.div_le_self _ _;generalize m / 2 ^ i = x at *;have hr1 : Int.tmod (x : Int) 2 = ((x % 2 : Nat) : Int) := (Int.ofNat_tmod x 2).symm;have hr2 : Int.tdiv (x : Int) 2 = ((x / 2 : Nat) : Int) := (Int.ofNat_tdiv x 2).symm;obtain ⟨b, hb⟩ : ∃ b, b = decide (x % 2 = 1) := ⟨_, rfl⟩;have hr3 : (((x % 2 : Nat) : Int) == 1) = b := by rw [hb]; by_cases h1 : x % 2 = 1 <;> simp [h1]; omega
       have hr4 : ((x % 2) == 1) = b := by rw [hb]; by_cases h1 : x % 2 = 1 <;> simp [h1]
       have hr5 : ((x : Int) % 2 == 1) = b := by rw [← hr3]; rfl
       have hwx : IntKind.i64.wrap ((x % 2 : Nat) : Int) = ((x % 2 : Nat) : Int) := IntWalk.i64_in _ (by omega);have hwy : IntKind.i64.wrap ((x / 2 : Nat) : Int) = ((x / 2 : Nat) : Int) := IntWalk.i64_in _ (by omega);rw [← hb] at HFB;have lG := hG.out.lt;have fG := hG.out.free i;obtain ⟨zz, hzz⟩ : ∃ zz, (boolsC ((bitsN ni m).take i ++ List.replicate (ni - i) false))[i]? = some zz := ⟨_, Array.getElem?_eq_getElem (by rw [boolsC_size, List.length_append, List.length_take, List.length_replicate, bitsN_len]; omega)⟩;have x0 := (hG.out.at_ i).trans hzz;have OS : Only [gc] wr (wr.setCell ⟨gc, i, none⟩ (.bool b)) := (Only.refl [gc] wr).put (p := ⟨gc, i, none⟩) (fun _ => by simp) (.bool b);have hp := hG.out.put i (.bool b);rw [boolsC_set, HFB.out] at hp;have HG9 := Hd hp;have hgne : g ≠ gc := hB.out.apart hG.out (by decide);have HB9 := Hd (OS.blk hB.out (by simp; exact hgne));have HO9 := Hd (hO.out.step OS (fun i hi hl => by simp at hi; omega));clear hzz hb hbg OS hp HFB hG hB hO hgne;go_wp2
       go_roundw
       case rel => exact ⟨i + 1, by rw [HX2.out, Int.natCast_ediv]; rfl, by go_num, by omega, HG9, HB9, HO9⟩
       case measure => simp [intOf]; omega
      ·have hin : ni = i := by omega
       subst hin;have hd4 : decide ((ni : Int) < (ni : Int)) = false := by simp
       have hgg2 := hG.out;rw [List.take_of_length_le (by rw [bitsN_len]; exact Nat.le_refl _), Nat.sub_self, List.replicate_zero, List.append_nil] at hgg2;have hGG := Hd hgg2;have HBL := Hd (bitsN_len ni m);have HON : Hid (oneN h (bitsN ni m) = oneQ (allT h (bitsN ni m)) (allT h (bitsN ni m)).length) := Hd (by unfold oneN oneQ; rw [List.take_length]);have HFW1 := Hd (HFW.out (bitsN ni m));have HAL := Hd (allT_len h (bitsN ni m));have hln := HLN.out;clear hG hgg2;generalize bitsN ni m = c at *;generalize (m / 2 ^ ni) = xm at *;go_upto_region 18 with (fail)
       refine rg1 [] [] wr ?_;have OW : Only [] wr wr.drew := (Only.refl [] wr).drew;generalize wr.drew = wz at *;refine trd (i := 0) (v := ?_) 0 ?_ ?_;rotate_left
       ·(intro wq hSw; obtain ⟨lb_H, y0, y1, y2⟩ := Bk3 (hSw.blk hB.out (by simp)); simp at y0 y1 y2; clear hSw; go_simp; try with_reducible rfl)
       (try simp only [tdz]);refine trd (i := 1) (v := ?_) 0 ?_ ?_;rotate_left
       ·(intro wq hSw; obtain ⟨lb_H, y0, y1, y2⟩ := Bk3 (hSw.blk hB.out (by simp)); simp at y0 y1 y2; clear hSw; go_simp; try with_reducible rfl)
       (try simp only [tdz]);refine tQ 2 (h := ?_);refine tst (i := 3) fun K hK => ?_;go_simp;refine (HBE.out (some ⟨gc, 0, none⟩) ni _ c _ (hO.out.trans OW) (row_bools (OW.blk hGG.out (by simp))) HBL.out).mono ?_;rintro e wa ⟨V, V2, ⟨rfl, hv, hv2⟩, Oa⟩;obtain ⟨AV, cV, rfl, -, -, -, -⟩ := own_row hv;obtain ⟨AX, cX, rfl, -, -, -, -⟩ := own_row hv2;have OW1 := OW.trans Oa;clear Oa;refine kOut hK (OW1) (h := ?_);clear hK K;refine tst (i := 4) fun K hK => ?_;go_simp;refine (HTR.out AV AX _ cV cX _ c _ (hO.out.trans OW1) (own_row_at hv).1 HBL.out).mono ?_;rintro e wb ⟨VT, ⟨xs, rfl, hxs, hT, hX⟩, Ob⟩;obtain ⟨AT, cT, rfl, -, -, -, -⟩ := own_row hT;have OW2 := OW1.trans Ob;clear Ob;refine kOut hK (OW2) (h := ?_);clear hK K;refine tQ 5 (h := tQ 6 (h := ?_));refine tdn ?_;have HXS := Hd hxs;have HT4 := Hd (own_row_at hT).1;have HB4 := Hd (OW2.blk hB.out (by simp));have HO4 := Hd (hO.out.trans OW2);have HXN : Hid (xs.length = (allT h c).length) := Hd (by have := congrArg List.length hxs; rwa [List.length_map] at this);obtain ⟨BT, hBT⟩ : ∃ BT, BT = wb.heap.size := ⟨_, rfl⟩;rw [← hBT] at HT4;clear hBT OW OW1 OW2 hv hv2 hT hX hxs hB hO hGG HBL;obtain ⟨nt, hnt⟩ : ∃ nt, (allT h c).length = nt := ⟨_, rfl⟩;rw [hnt] at HON HAL HXN ⊢;have hnt4 : nt ≤ 40000 := by rw [HAL.out]; exact hln
       clear hnt hln;generalize allT h c = vals at *;generalize hww : wb = w4 at *;clear hww;go_wp2_with fail
       go_loopw [12, 13] (fun ov iv wr => ∃ k : Nat, ov = .int .i64 ((oneQ vals k : Nat) : Int) ∧ iv = .int .i64 (k : Int) ∧ k ≤ nt ∧ wr = w4) (fun _ iv _ => nt - (intOf iv).toNat)
       case atStart => exact ⟨0, rfl, rfl, by omega, rfl⟩
       case round =>
        obtain ⟨k, rfl, rfl, hk, rfl⟩ := hrel;have hole := oneQ_le vals k
        by_cases hlt5 : k < nt
        ·have h05 : (k : Int) < (nt : Int) := by omega
         have hk0 : (0 : Int) ≤ (k : Int) := Int.natCast_nonneg _;have hwk : IntKind.i64.wrap ((k : Int) + 1) = (k : Int) + 1 := IntWalk.i64_in _ (by omega);obtain ⟨x, hx⟩ : ∃ x, xs[k]? = some x := ⟨_, List.getElem?_eq_getElem (by rw [HXN.out]; exact hlt5)⟩;have hxv : vals[k]? = some x.l := by rw [← HXS.out, List.getElem?_map, hx]; rfl
         have hlen := HFW1.out _ (List.mem_of_getElem? hxv);have hos := oneQ_succ hxv;obtain ⟨bT, oT, rfl, -, hbT, hcT⟩ := HT4.out.open_ (k := k) (by rw [List.length_map, HXN.out]; exact hlt5);have t0 := hcT k _ (by rw [List.getElem?_map, hx]; rfl);unfold slC at t0;generalize oneQ vals k = a at *;generalize x.l.length = b at *;obtain ⟨pr, hpr⟩ : ∃ pr, a * b = pr := ⟨_, rfl⟩;have hmul : pr ≤ 1000000 * 1000 := by rw [← hpr]; exact Nat.mul_le_mul hole hlen
         have hwm2 : IntKind.i64.wrap ((a : Int) * (b : Int)) = (pr : Int) := by rw [← Int.natCast_mul, hpr]; exact IntWalk.i64_in _ (by omega)
         have hmin : min (pr : Int) 1000000 = ((capN pr : Nat) : Int) := by unfold capN; omega
         rw [hpr] at hos;have HOS := Hd hos;clear hpr hmul hos hcT hx hxv hlen;go_wp2
         go_roundw
         case rel => exact ⟨k + 1, by rw [HOS.out], by go_num, by omega, trivial⟩
         case measure => simp [intOf]; omega
        ·have hkn : nt = k := by omega
         subst hkn;have hd5 : decide ((nt : Int) < (nt : Int)) = false := by simp
         have hrc := HRC.out;rw [HON.out] at hrc;have HRN := Hd hrc;generalize oneQ vals nt = a at *;have hws : IntKind.i64.wrap ((rq : Int) + (a : Int)) = ((rq + a : Nat) : Int) := by rw [← Int.natCast_add]; exact IntWalk.i64_in _ (by omega)
         have hws2 : IntKind.i64.wrap ((rq : Int) + (a : Int)) = (rq : Int) + (a : Int) := IntWalk.i64_in _ (by omega);have hmin : min ((rq : Int) + (a : Int)) 1000000 = ((capN (rq + a) : Nat) : Int) := by unfold capN; omega
         clear hrc hws;go_wp2
         go_roundw
         case rel => exact ⟨m + 1, by rw [HRN.out], by go_num, by omega, HB4, HO4⟩
         case measure => simp [intOf]; omega
    ·have hmn : mk = m := by omega
     subst hmn;have hd3 : decide ((mk : Int) < (mk : Int)) = false := by simp
     have HE : Hid (rcntQ h (2 ^ ni) = rcntQ h mk) := Hd (by rw [HMM.out]);go_wp2
     go_ret
     exact ⟨by rw [HE.out]; rfl, hO.out⟩
theorem own_nil0 {w : World} {base : Nat} {e : TypeId} {size : Nat} {A : Option Addr} {n c m : Nat} {xs : List Value} (h : w.ownsRow base e size (.slice A n c) m xs) (hA : A = none) : n = 0 ∧ c = 0 := by
 subst hA;rcases h.2 with ⟨e, -⟩ | ⟨g1, cp1, cu1, e, -⟩
 ·injection e with e1 e2 e3;exact ⟨e2, e3⟩
 ·injection e with e1 e2 e3
  cases e1
def ex16 : ByteArray := ⟨#[98, 101, 103, 105, 110, 32, 115, 10, 105, 110, 102, 111, 32, 115]⟩
def hist16 : Hst := ⟨[⟨#[115]⟩], [], [⟨0, 3, []⟩]⟩
def evs16 : List Ev6 := [⟨1, ⟨#[115]⟩, ⟨#[]⟩, 0, 0, 1⟩, ⟨6, ⟨#[115]⟩, ⟨#[]⟩, 0, 0, 2⟩]
theorem ex16_log : logParse ex16 = (evs16, 0, 0) := by kernel_rfl
theorem ex16_rows : (linesOf (by_ ex16)).all (fun x => decide (x.length ≤ 65535)) = true := by kernel_rfl
theorem ex16_h : pairH evs16 = hist16 := by kernel_rfl
theorem ex16_e : pairE evs16 = 0 := by kernel_rfl
theorem ex16_l : pairL evs16 = 0 := by kernel_rfl
theorem ex16_show : showR ex16 = (hist16, 0, 0) := by
 unfold showR;rw [ex16_log];dsimp only;rw [if_pos rfl, ex16_h, ex16_e, ex16_l]
theorem ex16_may : mayH hist16 = true := by decide +kernel
theorem ex16_c : firstWC hist16 = [false] := by decide +kernel
theorem ex16_v : firstWL hist16 = [] := by decide +kernel
theorem ex16_n1 : nextW hist16 ⟨[false], []⟩ = some ⟨[true], []⟩ := by kernel_rfl
theorem ex16_n2 : nextW hist16 ⟨[true], []⟩ = none := by kernel_rfl
theorem ex16_n : countW hist16 = 2 := by decide +kernel
theorem ex16_int : HInt hist16 := by
 intro t ht x hx;simp [hist16] at ht;subst ht;simp at hx
theorem ex16_small : HSmall hist16 where
 s := fun x hx => by
  simp [hist16] at hx;subst hx
  decide
 k := fun x hx => by simp [hist16] at hx
 ns := by decide
 nk := by decide
 nl := by decide
 no := fun t ht => by
  simp [hist16] at ht;subst ht;simp
theorem works16_any (w : World) (hT : UTabs w) (hM : MLen w) (hV : Verbs w) :
  Calls Tryz.prog 28 #[] w fun e w' => e = .returned (.bool true) ∧ Only [] w w' := by
 have HP := Hd (fun w' (O : Only [] w w') => sparse_any ex16 w' (by decide) (fun x hx => by simpa using List.all_eq_true.1 ex16_rows x hx) (by rw [ex16_log]; decide) (fun x hx => by
  rw [ex16_log] at hx;simp [evs16] at hx;rcases hx with rfl | rfl <;> exact ⟨by decide, by decide⟩) (hT.only O) (hM.only O) (hV.only O))
 have HI := Hd (fun (A0 A1 A2 : Option Addr) (B : Nat) w' (hA : HAt w' B A0 A1 A2 hist16) (O : Only [] w w') => (⟨hA, rfl, rfl, rfl, ex16_small, hT.only O⟩ : HIn w' B A0 A1 A2 1 0 1 hist16));have HFI := Hd (fun (A0 A1 A2 : Option Addr) (c0 c1 c2 B : Nat) w' (hA : HIn w' B A0 A1 A2 1 0 1 hist16) => wfirst_any A0 A1 A2 1 0 1 c0 c1 c2 B hist16 w' hA);have HNX := Hd (fun (x : Wld) (Ac Al : Option Addr) (nc nl cc cl Bc Bl : Nat) (A0 A1 A2 : Option Addr) (c0 c1 c2 B : Nat) w' (hA : HIn w' B A0 A1 A2 1 0 1 hist16) (hc : Row w' Bc Ac (x.c.map Value.bool)) (hl : Row w' Bl Al (edgeC x.l)) (hcl : x.c.length = nc) (hll : x.l.length = nl) (hM : nl ≤ 100000) (hMc : nc ≤ 100000) (hAc : Ac = none → nc = 0 ∧ cc = 0) (hAl : Al = none → nl = 0 ∧ cl = 0) => wnext_any A0 A1 A2 Ac Al 1 0 1 nc nl c0 c1 c2 cc cl B Bc Bl hist16 x w' hA ex16_int hc hl hcl hll hM hMc hAc hAl);have HCN := Hd (fun (A0 A1 A2 : Option Addr) (c0 c1 c2 B : Nat) w' (hA : HIn w' B A0 A1 A2 1 0 1 hist16) => wcount_any A0 A1 A2 1 0 1 c0 c1 c2 B hist16 w' hA ex16_int);rw [ex16_show] at HP;rw [ex16_c, ex16_v] at HFI;rw [ex16_n] at HCN;have HE : Hid (errH hist16 = 0) := Hd (errH_yes ex16_may);rw [HE.out] at HFI;unfold ex16 at HP;unfold hval at HFI HNX HCN;clear hT hM hV HE;go_enter Tryz.func28, Tryz.ntmps28;go_wp2_with fail
 refine (HP.out _ (Only.refl [] w)).mono ?_;rintro e w2 ⟨B0, B1, B2, d0, d1, d2, ⟨rfl, hA⟩, O2⟩;have HA := Hd hA;have HO2 := Hd O2;clear hA O2 HP;rw [show hist16.ss.length = 1 from rfl, show hist16.ks.length = 0 from rfl, show hist16.l.length = 1 from rfl];go_upto_region 2 with (fail)
 have HO3 := Hd (HO2.out.alloc (.cells #[.slice B0 1 d0, .slice B1 0 d1, .slice B2 1 d2] 25));have HB3 := Hd (Blk.made w2 25 #[.slice B0 1 d0, .slice B1 0 d1, .slice B2 1 d2]);have HI3 := Hd (HI.out B0 B1 B2 w2.heap.size _ (HA.out.only ((Only.refl [] w2).alloc (.cells #[.slice B0 1 d0, .slice B1 0 d1, .slice B2 1 d2] 25)) (by simp)) HO3.out);clear HA HO2 HI;generalize (w2.alloc (.cells #[.slice B0 1 d0, .slice B1 0 d1, .slice B2 1 d2] 25)) = w3 at *;generalize hg2 : w2.heap.size = g2 at *;have lHB_ := HB3.out.lt;have y0 := HB3.out.at_ 0;have y1 := HB3.out.at_ 1;have y2 := HB3.out.at_ 2;simp at y0 y1 y2;go_wp2_with fail
 refine (HFI.out _ _ _ _ _ _ _ _ HI3.out).mono ?_;rintro e w4 ⟨V, V2, ⟨rfl, hv, hv2⟩, O4⟩;clear lHB_ y0 y1 y2;obtain ⟨AV, cV, rfl, -, -, -, -⟩ := own_row hv;obtain ⟨AX, cX, rfl, -, -, -, -⟩ := own_row hv2;have HO4 := Hd (HO3.out.trans O4);have HB4 := Hd (O4.blk HB3.out (by simp));have HI4 := Hd (HI3.out.same O4);clear HO3 HB3 HI3;clear O4;rw [show ([false] : List Bool).length = 1 from rfl, show ([] : List V2).length = 0 from rfl] at *;go_upto_region 3 with (fail)
 have HW5 := Hd (Blk.made w4 51 #[.slice AV 1 cV, .slice AX 0 cX]);have O5 : Only [] w4 (w4.alloc (.cells #[.slice AV 1 cV, .slice AX 0 cX] 51)) := (Only.refl [] w4).alloc _;have HV4 := Hd hv;have HX4 := Hd hv2;have HO5 := Hd (HO4.out.trans O5);have HB5 := Hd (O5.blk HB4.out (by simp));have HI5 := Hd (HI4.out.same O5);have HV5 := Hd (own_only HV4.out O5 (by simp));have HX5 := Hd (own_only HX4.out O5 (by simp));clear HO4 HB4 HI4 HV4 HX4;clear O5 hv hv2;generalize (w4.alloc (.cells #[.slice AV 1 cV, .slice AX 0 cX] 51)) = w5 at *;generalize w4.heap.size = gw at *;have HNX5 := Hd (HNX.out ⟨[false], []⟩ AV AX 1 0 cV cX _ _ B0 B1 B2 d0 d1 d2 _ _ HI5.out (own_row_at HV5.out).1 (own_row_at HX5.out).1 rfl rfl (by omega) (by omega) (own_nil0 HV5.out) (own_nil0 HX5.out));rw [ex16_n1] at HNX5;dsimp only [Option.getD_some, Option.isSome_some] at HNX5;have lHB_ := HB5.out.lt;have y0 := HB5.out.at_ 0;have y1 := HB5.out.at_ 1;have y2 := HB5.out.at_ 2;have lHW_ := HW5.out.lt;have x0 := HW5.out.at_ 0;have x1 := HW5.out.at_ 1;simp at y0 y1 y2 x0 x1;go_wp2_with fail
 refine (HNX5.out).mono ?_;rintro e w6 ⟨V6, X6, ⟨rfl, hv, hv2⟩, O6⟩;clear lHB_ lHW_ y0 y1 y2 x0 x1;obtain ⟨AY, cY, rfl, -, -, -, -⟩ := own_row hv;obtain ⟨AZ, cZ, rfl, -, -, -, -⟩ := own_row hv2;have HO6 := Hd (HO5.out.trans O6);have HB6 := Hd (O6.blk HB5.out (by simp));have HI6 := Hd (HI5.out.same O6);have HV6 := Hd (own_only HV5.out O6 (by simp));have HX6 := Hd (own_only HX5.out O6 (by simp));have HW6 := Hd (O6.blk HW5.out (by simp));clear HO5 HB5 HI5 HV5 HX5 HW5;have HY6 := Hd hv;have HZ6 := Hd hv2;rw [show ([true] : List Bool).length = 1 from rfl] at *;clear O6 hv hv2 HNX5;go_upto_region 4 with (fail)
 have HQ7 := Hd (Blk.made w6 51 #[.slice AY 1 cY, .slice AZ ([] : List V2).length cZ]);have O7 : Only [] w6 (w6.alloc (.cells #[.slice AY 1 cY, .slice AZ ([] : List V2).length cZ] 51)) := (Only.refl [] w6).alloc _;have HO7 := Hd (HO6.out.trans O7);have HB7 := Hd (O7.blk HB6.out (by simp));have HI7 := Hd (HI6.out.same O7);have HV7 := Hd (own_only HV6.out O7 (by simp));have HX7 := Hd (own_only HX6.out O7 (by simp));have HW7 := Hd (O7.blk HW6.out (by simp));have HY7 := Hd (own_only HY6.out O7 (by simp));have HZ7 := Hd (own_only HZ6.out O7 (by simp));clear HO6 HB6 HI6 HV6 HX6 HW6 HY6 HZ6;clear O7;rw [show ([] : List V2).length = 0 from rfl] at *;generalize (w6.alloc (.cells #[.slice AY 1 cY, .slice AZ 0 cZ] 51)) = w7 at *;generalize w6.heap.size = gq at *;have HNX7 := Hd (HNX.out ⟨[true], []⟩ AY AZ 1 0 cY cZ _ _ B0 B1 B2 d0 d1 d2 _ _ HI7.out (own_row_at HY7.out).1 (own_row_at HZ7.out).1 rfl rfl (by omega) (by omega) (own_nil0 HY7.out) (own_nil0 HZ7.out));rw [ex16_n2] at HNX7;dsimp only [Option.getD_none, Option.isSome_none] at HNX7;have lHB_ := HB7.out.lt;have y0 := HB7.out.at_ 0;have y1 := HB7.out.at_ 1;have y2 := HB7.out.at_ 2;have lHQ_ := HQ7.out.lt;have q0 := HQ7.out.at_ 0;have q1 := HQ7.out.at_ 1;simp at y0 y1 y2 q0 q1;go_wp2_with fail
 refine (HNX7.out).mono ?_;rintro e w8 ⟨V8, X8, ⟨rfl, hv, hv2⟩, O8⟩;clear lHB_ lHQ_ y0 y1 y2 q0 q1;obtain ⟨AP, cP, rfl, -, -, -, -⟩ := own_row hv;obtain ⟨AR, cR, rfl, -, -, -, -⟩ := own_row hv2;have HO8 := Hd (HO7.out.trans O8);have HB8 := Hd (O8.blk HB7.out (by simp));have HI8 := Hd (HI7.out.same O8);have HV8 := Hd (own_only HV7.out O8 (by simp));have HX8 := Hd (own_only HX7.out O8 (by simp));have HW8 := Hd (O8.blk HW7.out (by simp));have HY8 := Hd (own_only HY7.out O8 (by simp));have HZ8 := Hd (own_only HZ7.out O8 (by simp));have HQ8 := Hd (O8.blk HQ7.out (by simp));clear HO7 HB7 HI7 HV7 HX7 HW7 HY7 HZ7 HQ7;clear O8 hv hv2 HNX7 HNX;go_upto_region 5 with (fail)
 have O9 : Only [] w8 (w8.alloc (.cells #[.slice AP ([] : List Bool).length cP, .slice AR ([] : List V2).length cR] 51)) := (Only.refl [] w8).alloc _;have HO9 := Hd (HO8.out.trans O9);have HB9 := Hd (O9.blk HB8.out (by simp));have HI9 := Hd (HI8.out.same O9);have HV9 := Hd (own_only HV8.out O9 (by simp));have HX9 := Hd (own_only HX8.out O9 (by simp));have HW9 := Hd (O9.blk HW8.out (by simp));have HY9 := Hd (own_only HY8.out O9 (by simp));have HZ9 := Hd (own_only HZ8.out O9 (by simp));have HQ9 := Hd (O9.blk HQ8.out (by simp));clear HO8 HB8 HI8 HV8 HX8 HW8 HY8 HZ8 HQ8;clear O9;generalize (w8.alloc (.cells #[.slice AP ([] : List Bool).length cP, .slice AR ([] : List V2).length cR] 51)) = w9 at *;generalize w8.heap.size = gp at *;obtain ⟨b1, o1, rfl, -, hb1, hc1⟩ := (own_row_at HV9.out).1.open_ (k := 0) (by simp);have v0 := hc1 0 (.bool false) rfl;obtain ⟨b2, o2, rfl, -, hb2, hc2⟩ := (own_row_at HY9.out).1.open_ (k := 0) (by simp);have u0 := hc2 0 (.bool true) rfl;rw [Nat.add_zero] at v0 u0;clear hc1 hc2;have lHB_ := HB9.out.lt;have y0 := HB9.out.at_ 0;have y1 := HB9.out.at_ 1;have y2 := HB9.out.at_ 2;have lHW_ := HW9.out.lt;have x0 := HW9.out.at_ 0;have x1 := HW9.out.at_ 1;have lHQ_ := HQ9.out.lt;have q0 := HQ9.out.at_ 0;have q1 := HQ9.out.at_ 1;simp at y0 y1 y2 x0 x1 q0 q1;go_wp2_with fail
 refine (HCN.out _ _ _ _ _ _ _ _ HI9.out).mono ?_;rintro e wa ⟨rfl, Oa⟩;have HZ := Hd (HO9.out.trans Oa);go_wp2
 go_ret
 exact ⟨rfl, HZ.out⟩
def cutH (G : Hst) : Hst := if mayH G = true ∧ (6 < infosN G ∨ 5 < (lostX G.l).length) then ⟨G.ss, G.ks, []⟩ else G
def few16 (h : Hst) : Hst := cutH (fewH h)
theorem cutH_l (G : Hst) : (cutH G).l = G.l ∨ (cutH G).l = [] := by unfold cutH; split <;> simp
theorem cutH_cut (G : Hst) : cutH (cutH G) = cutH G := by
 by_cases h : mayH G = true ∧ (6 < infosN G ∨ 5 < (lostX G.l).length)
 ·have e : cutH G = ⟨G.ss, G.ks, []⟩ := by unfold cutH; rw [if_pos h]
  rw [e];unfold cutH;rw [if_neg];rintro ⟨-, h1 | h1⟩
  ·simp [infosN, whichL] at h1
  ·simp [lostX, plsL] at h1
 ·have e : cutH G = G := by unfold cutH; rw [if_neg h]
  rw [e, e]
theorem cutH_few (G : Hst) (hf : fewH G = G) : fewH (cutH G) = cutH G := by
 unfold cutH
 split
 ·have h1 := congrArg Hst.ss hf;have h2 := congrArg Hst.ks hf;unfold fewH at h1 h2 ⊢;dsimp only at h1 h2 ⊢;rw [h1, h2]
  rfl
 ·exact hf
theorem few16_few (h : Hst) : fewH (few16 h) = few16 h := cutH_few _ (few_few h)
theorem few16_cut (h : Hst) : cutH (few16 h) = few16 h := cutH_cut _
theorem few16_bd {h : Hst} (hm : mayH (few16 h) = true) : infosN (few16 h) ≤ 6 ∧ (lostX (few16 h).l).length ≤ 5 := by
 unfold few16 at hm ⊢;generalize fewH h = G at *
 by_cases hc : mayH G = true ∧ (6 < infosN G ∨ 5 < (lostX G.l).length)
 ·have e : cutH G = ⟨G.ss, G.ks, []⟩ := by unfold cutH; rw [if_pos hc]
  rw [e];simp [infosN, whichL, lostX, plsL]
 ·have e : cutH G = G := by unfold cutH; rw [if_neg hc]
  rw [e] at hm ⊢;exact ⟨Nat.le_of_not_lt fun h1 => hc ⟨hm, .inl h1⟩, Nat.le_of_not_lt fun h1 => hc ⟨hm, .inr h1⟩⟩
theorem cutH_int {G : Hst} (h : HInt G) : HInt (cutH G) := by
 intro t ht;rcases cutH_l G with e | e
 ·rw [e] at ht; exact h t ht
 ·rw [e] at ht; cases ht
theorem HIn.noL {w : World} {B : Nat} {A0 A1 A2 : Option Addr} {n0 n1 n2 : Nat} {G : Hst} (h : HIn w B A0 A1 A2 n0 n1 n2 G) : HIn w B A0 A1 none n0 n1 0 ⟨G.ss, G.ks, []⟩ :=
 ⟨⟨h.at_.r0, h.at_.r1, ⟨[], rfl, .inl rfl, fun x hx => by cases hx⟩⟩, h.n0, h.n1, rfl, ⟨h.sm.s, h.sm.k, h.sm.ns, h.sm.nk, Nat.zero_le _, fun t ht => by cases ht⟩, h.u⟩
theorem few16_core (A0 A1 A2 : Option Addr) (n0 n1 n2 c0 c1 c2 : Nat) (G : Hst) (w : World)
  (HF : ∀ w', Only [] w w' → Calls Tryz.prog 9 #[.agg #[.slice A0 n0 c0, .slice A1 n1 c1, .slice A2 n2 c2]] w' fun e w'' => ∃ B0 B1 B2 d0 d1 d2, (e = .returned (.agg #[.slice B0 G.ss.length d0, .slice B1 G.ks.length d1, .slice B2 G.l.length d2]) ∧ HIn w'' w''.heap.size B0 B1 B2 G.ss.length G.ks.length G.l.length G) ∧ Only [] w' w'')
  (hT : UTabs w) :
  Calls Tryz.prog 22 #[.agg #[.slice A0 n0 c0, .slice A1 n1 c1, .slice A2 n2 c2]] w fun e w' => ∃ B0 B1 B2 d0 d1 d2, (e = .returned (.agg #[.slice B0 (cutH G).ss.length d0, .slice B1 (cutH G).ks.length d1, .slice B2 (cutH G).l.length d2]) ∧ HIn w' w'.heap.size B0 B1 B2 (cutH G).ss.length (cutH G).ks.length (cutH G).l.length (cutH G)) ∧ Only [] w w' := by
 have HFH := Hd HF;clear HF;have HT := Hd hT;have HO1 := Hd (((Only.refl [] w).alloc (.cells #[.slice A0 n0 c0, .slice A1 n1 c1, .slice A2 n2 c2] 25)).alloc (.cells #[.slice none 0 0, .slice none 0 0, .slice none 0 0] 25));have HB1 := Hd ((Blk.made w 25 #[.slice A0 n0 c0, .slice A1 n1 c1, .slice A2 n2 c2]).alloc (.cells #[.slice none 0 0, .slice none 0 0, .slice none 0 0] 25));have HR1 := Hd (Blk.made (w.alloc (.cells #[.slice A0 n0 c0, .slice A1 n1 c1, .slice A2 n2 c2] 25)) 25 #[.slice none 0 0, .slice none 0 0, .slice none 0 0]);simp only [World.size_alloc] at HR1;clear hT;go_enter Tryz.func22, Tryz.ntmps22;go_upto_region 1 with (fail)
 generalize ((w.alloc (.cells #[.slice A0 n0 c0, .slice A1 n1 c1, .slice A2 n2 c2] 25)).alloc (.cells #[.slice none 0 0, .slice none 0 0, .slice none 0 0] 25)) = w1 at *;generalize hgr : w.heap.size + 1 = gr at *;generalize hgg : w.heap.size = g at *;have lHB_ := HB1.out.lt;have y0 := HB1.out.at_ 0;have y1 := HB1.out.at_ 1;have y2 := HB1.out.at_ 2;simp at y0 y1 y2;go_wp2_with fail
 refine (HFH.out _ HO1.out).mono ?_;rintro e w2 ⟨B0, B1, B2, d0, d1, d2, ⟨rfl, hI⟩, O2⟩;clear lHB_ y0 y1 y2;have HI2 := Hd hI;have HO2 := Hd (HO1.out.trans O2);have HB2 := Hd (O2.blk HB1.out (by simp));have HR2 := Hd (O2.blk HR1.out (by simp));clear HO1 HB1 HR1;clear hI O2 HFH;go_upto_region 2 with (refine wpList_store_blk rfl 25 (.tmp 1) (.tmp 4) rfl g 25 _ #[.slice B0 G.ss.length d0, .slice B1 G.ks.length d1, .slice B2 G.l.length d2] rfl rfl HB2.out rfl (by kernel_rfl) (by kernel_rfl) ?_; intro w4 hb4 o4; have HB4 := Hd hb4; have HR4 := Hd (o4.blk HR2.out (by simp; omega)); have HO4 := Hd (HO2.out.step o4 (fun i hi hl => by simp at hi; omega)); have HI4 := Hd (HI2.out.past HB2.out o4 (HT.out.only HO4.out)); clear hb4 o4; clear HI2 HB2 HO2 HR2)
 have HMY := Hd (refmay_any B0 B1 B2 _ _ _ d0 d1 d2 _ G w4 HI4.out);unfold hval at HMY;have lHB_ := HB4.out.lt;have y0 := HB4.out.at_ 0;have y1 := HB4.out.at_ 1;have y2 := HB4.out.at_ 2;simp at y0 y1 y2
 cases hm : mayH G with
 | false =>
  have HE : Hid (cutH G = G) := Hd (by unfold cutH; rw [if_neg (by rw [hm]; simp)]);rw [errH_not hm] at HMY;clear hm;go_wp2_with fail
  refine (HMY.out).mono ?_;rintro e w5 ⟨rfl, O5⟩;clear lHB_ y0 y1 y2;have HO5 := Hd (HO4.out.trans O5);have HB5 := Hd (O5.blk HB4.out (by simp));have HR5 := Hd (O5.blk HR4.out (by simp));have HI5 := Hd (HI4.out.same O5);clear HO4 HB4 HR4 HI4;clear O5 HMY;have lHB_ := HB5.out.lt;have y0 := HB5.out.at_ 0;have y1 := HB5.out.at_ 1;have y2 := HB5.out.at_ 2;simp at y0 y1 y2;go_upto_region 4 with (fail)
  go_wp2_with (refine wpList_store_blk rfl 25 (.tmp 2) (.tmp 21) rfl gr 25 _ #[.slice B0 G.ss.length d0, .slice B1 G.ks.length d1, .slice B2 G.l.length d2] rfl rfl HR5.out rfl (by kernel_rfl) (by kernel_rfl) ?_; intro w9 hb9 o9; have HR9 := Hd hb9; have HO9 := Hd (HO5.out.step o9 (fun i hi hl => by simp at hi; omega)); have HI9 := Hd (HI5.out.past HR5.out o9 (HT.out.only HO9.out)); clear hb9 o9)
  refine bodyPost_ret (results_row1 Tryz.results22 _ _ gr 25 #[.slice B0 G.ss.length d0, .slice B1 G.ks.length d1, .slice B2 G.l.length d2] _ rfl HR9.out Tryz.underlying25 rfl (by kernel_rfl)) rfl ?_;rw [HE.out];refine ⟨B0, B1, B2, d0, d1, d2, ⟨rfl, ?_⟩, HO9.out⟩;exact HI9.out
 | true =>
  rw [errH_yes hm] at HMY

  have HIN := Hd (fun w' (O : Only [] w4 w') => rinfos_any B0 B1 B2 G.ss.length G.ks.length G.l.length d0 d1 d2 _ G w' (HI4.out.same O).at_.r2 rfl HI4.out.sm.nl);have HLS := Hd (fun w' (O : Only [] w4 w') => rlost_any B0 B1 B2 G.ss.length G.ks.length G.l.length d0 d1 d2 _ G w' (HI4.out.same O).at_.r2 rfl HI4.out.sm.nl HI4.out.sm.no);rw [lostP_eq, List.length_map] at HLS;have hni : (whichL (fun t : Tx => decide (t.f = 3)) G.l).length = infosN G := rfl;rw [hni] at HIN;have HCY : Hid ((6 < infosN G ∨ 5 < (lostX G.l).length) → cutH G = ⟨G.ss, G.ks, []⟩) := Hd (fun h => by unfold cutH; rw [if_pos ⟨hm, h⟩]);have HCN : Hid (¬ (6 < infosN G ∨ 5 < (lostX G.l).length) → cutH G = G) := Hd (fun h => by unfold cutH; rw [if_neg (fun e => h e.2)]);generalize infosN G = ni at *;generalize hnl : (lostX G.l).length = nl at *;unfold hval at HIN HLS;clear hm hni hnl;go_wp2_with fail
  refine (HMY.out).mono ?_;rintro e w5 ⟨rfl, O5⟩;clear lHB_ y0 y1 y2;have HO45 := Hd O5;have HO5 := Hd (HO4.out.trans O5);have HB5 := Hd (O5.blk HB4.out (by simp));have HR5 := Hd (O5.blk HR4.out (by simp));have HI5 := Hd (HI4.out.same O5);clear HO4 HB4 HR4 HI4;clear O5 HMY;have lHB_ := HB5.out.lt;have y0 := HB5.out.at_ 0;have y1 := HB5.out.at_ 1;have y2 := HB5.out.at_ 2;simp at y0 y1 y2;go_wp2_with fail
  refine (HIN.out _ HO45.out).mono ?_;rintro e w6 ⟨Ai, ci, ⟨rfl, -⟩, O6⟩;clear lHB_ y0 y1 y2;have HO46 := Hd (HO45.out.trans O6);have HO6 := Hd (HO5.out.trans O6);have HB6 := Hd (O6.blk HB5.out (by simp));have HR6 := Hd (O6.blk HR5.out (by simp));have HI6 := Hd (HI5.out.same O6);clear HO5 HB5 HR5 HI5;clear O6 HIN HO45;obtain ⟨bb, hbb⟩ : ∃ bb, bb = (decide (6 < ni) || decide (5 < nl)) := ⟨_, rfl⟩;have HBB := Hd hbb;clear hbb;have lHB_ := HB6.out.lt;have y0 := HB6.out.at_ 0;have y1 := HB6.out.at_ 1;have y2 := HB6.out.at_ 2;simp at y0 y1 y2
  by_cases h6 : 6 < ni
  ·have q1 : decide ((6 : Int) < (ni : Int)) = true := by simp; omega
   have q1' : decide ((ni : Int) > 6) = true := by simp; omega
   have q1'' : decide (6 < ni) = true := by simp; omega
   have HE := Hd (HCY.out (.inl h6));clear HLS HCY HCN HBB h6;have hf2 := HB6.out.free 2;have hI6 := HI6.out.noL;have hp := HB6.out.put 2 (.slice none 0 0);have OS : Only [g] w6 (w6.setCell ⟨g, 2, none⟩ (.slice none 0 0)) := (Only.refl [g] w6).put (p := ⟨g, 2, none⟩) (fun _ => by simp) (.slice none 0 0);have HB8 : Hid (Blk (w6.setCell ⟨g, 2, none⟩ (.slice none 0 0)) g 25 #[.slice B0 G.ss.length d0, .slice B1 G.ks.length d1, .slice none 0 0]) := Hd (by simpa using hp);have HR8 := Hd (OS.blk HR6.out (by simp; omega));have HO8 := Hd (HO6.out.step OS (fun i hi hl => by simp at hi; omega));have HI8 := Hd (hI6.past HB6.out OS (HT.out.only HO8.out));clear hI6 hp OS;go_upto_region 4 with (fail)
   clear hf2 lHB_ y0 y1 y2 HB6 HR6 HO6 HI6;generalize (w6.setCell ⟨g, 2, none⟩ (.slice none 0 0)) = w8 at *;have lHB_ := HB8.out.lt;have y0 := HB8.out.at_ 0;have y1 := HB8.out.at_ 1;have y2 := HB8.out.at_ 2;simp at y0 y1 y2;go_wp2_with (refine wpList_store_blk rfl 25 (.tmp 2) (.tmp 21) rfl gr 25 _ #[.slice B0 G.ss.length d0, .slice B1 G.ks.length d1, .slice none 0 0] rfl rfl HR8.out rfl (by kernel_rfl) (by kernel_rfl) ?_; intro w9 hb9 o9; have HR9 := Hd hb9; have HO9 := Hd (HO8.out.step o9 (fun i hi hl => by simp at hi; omega)); have HI9 := Hd (HI8.out.past HR8.out o9 (HT.out.only HO9.out)); clear hb9 o9)
   refine bodyPost_ret (results_row1 Tryz.results22 _ _ gr 25 #[.slice B0 G.ss.length d0, .slice B1 G.ks.length d1, .slice none 0 0] _ rfl HR9.out Tryz.underlying25 rfl (by kernel_rfl)) rfl ?_;rw [HE.out];refine ⟨B0, B1, none, d0, d1, 0, ⟨rfl, ?_⟩, HO9.out⟩;exact HI9.out
  ·have q1 : decide ((6 : Int) < (ni : Int)) = false := by simp; omega
   have q1' : decide ((ni : Int) > 6) = false := by simp; omega
   have q1'' : decide (6 < ni) = false := by simp; omega
   go_wp2_with fail
   refine (HLS.out _ HO46.out).mono ?_;rintro e w7 ⟨AL, cL, ⟨rfl, -⟩, O7⟩;clear lHB_ y0 y1 y2;have HO7 := Hd (HO6.out.trans O7);have HB7 := Hd (O7.blk HB6.out (by simp));have HR7 := Hd (O7.blk HR6.out (by simp));have HI7 := Hd (HI6.out.same O7);clear HO6 HB6 HR6 HI6;clear O7 HLS HO46;have lHB_ := HB7.out.lt;have y0 := HB7.out.at_ 0;have y1 := HB7.out.at_ 1;have y2 := HB7.out.at_ 2;simp at y0 y1 y2
   by_cases h5 : 5 < nl
   ·have q2 : decide ((5 : Int) < (nl : Int)) = true := by simp; omega
    have q2' : decide ((nl : Int) > 5) = true := by simp; omega
    have q2'' : decide (5 < nl) = true := by simp; omega
    have HE := Hd (HCY.out (.inr h5));clear HCY HCN HBB h6 h5;have hf2 := HB7.out.free 2;have hI7 := HI7.out.noL;have hp := HB7.out.put 2 (.slice none 0 0);have OS : Only [g] w7 (w7.setCell ⟨g, 2, none⟩ (.slice none 0 0)) := (Only.refl [g] w7).put (p := ⟨g, 2, none⟩) (fun _ => by simp) (.slice none 0 0);have HB8 : Hid (Blk (w7.setCell ⟨g, 2, none⟩ (.slice none 0 0)) g 25 #[.slice B0 G.ss.length d0, .slice B1 G.ks.length d1, .slice none 0 0]) := Hd (by simpa using hp);have HR8 := Hd (OS.blk HR7.out (by simp; omega));have HO8 := Hd (HO7.out.step OS (fun i hi hl => by simp at hi; omega));have HI8 := Hd (hI7.past HB7.out OS (HT.out.only HO8.out));clear hI7 hp OS;go_upto_region 4 with (fail)
    clear hf2 lHB_ y0 y1 y2 HB7 HR7 HO7 HI7;generalize (w7.setCell ⟨g, 2, none⟩ (.slice none 0 0)) = w8 at *;have lHB_ := HB8.out.lt;have y0 := HB8.out.at_ 0;have y1 := HB8.out.at_ 1;have y2 := HB8.out.at_ 2;simp at y0 y1 y2;go_wp2_with (refine wpList_store_blk rfl 25 (.tmp 2) (.tmp 21) rfl gr 25 _ #[.slice B0 G.ss.length d0, .slice B1 G.ks.length d1, .slice none 0 0] rfl rfl HR8.out rfl (by kernel_rfl) (by kernel_rfl) ?_; intro w9 hb9 o9; have HR9 := Hd hb9; have HO9 := Hd (HO8.out.step o9 (fun i hi hl => by simp at hi; omega)); have HI9 := Hd (HI8.out.past HR8.out o9 (HT.out.only HO9.out)); clear hb9 o9)
    refine bodyPost_ret (results_row1 Tryz.results22 _ _ gr 25 #[.slice B0 G.ss.length d0, .slice B1 G.ks.length d1, .slice none 0 0] _ rfl HR9.out Tryz.underlying25 rfl (by kernel_rfl)) rfl ?_;rw [HE.out];refine ⟨B0, B1, none, d0, d1, 0, ⟨rfl, ?_⟩, HO9.out⟩;exact HI9.out
   ·have q2 : decide ((5 : Int) < (nl : Int)) = false := by simp; omega
    have q2' : decide ((nl : Int) > 5) = false := by simp; omega
    have q2'' : decide (5 < nl) = false := by simp; omega
    have HE := Hd (HCN.out (by omega));clear HCY HCN HBB h6 h5;go_upto_region 4 with (fail)
    go_wp2_with (refine wpList_store_blk rfl 25 (.tmp 2) (.tmp 21) rfl gr 25 _ #[.slice B0 G.ss.length d0, .slice B1 G.ks.length d1, .slice B2 G.l.length d2] rfl rfl HR7.out rfl (by kernel_rfl) (by kernel_rfl) ?_; intro w9 hb9 o9; have HR9 := Hd hb9; have HO9 := Hd (HO7.out.step o9 (fun i hi hl => by simp at hi; omega)); have HI9 := Hd (HI7.out.past HR7.out o9 (HT.out.only HO9.out)); clear hb9 o9)
    refine bodyPost_ret (results_row1 Tryz.results22 _ _ gr 25 #[.slice B0 G.ss.length d0, .slice B1 G.ks.length d1, .slice B2 G.l.length d2] _ rfl HR9.out Tryz.underlying25 rfl (by kernel_rfl)) rfl ?_;rw [HE.out];refine ⟨B0, B1, B2, d0, d1, d2, ⟨rfl, ?_⟩, HO9.out⟩;exact HI9.out
theorem few16_first (A0 A1 A2 : Option Addr) (c0 c1 c2 : Nat) (h : Hst) (w : World) (hg : HAt w w.heap.size A0 A1 A2 h) (hm0 : h.ss.length ≤ maxLen) (hm1 : h.ks.length ≤ maxLen) (hm2 : h.l.length ≤ maxLen)
  (hz0 : ∀ z ∈ h.ss, z.size ≤ maxLen) (hz1 : ∀ z ∈ h.ks, z.size ≤ maxLen) (hT : UTabs w) :
  Calls Tryz.prog 22 #[.agg #[.slice A0 h.ss.length c0, .slice A1 h.ks.length c1, .slice A2 h.l.length c2]] w fun e w' => ∃ B0 B1 B2 d0 d1 d2, (e = .returned (.agg #[.slice B0 (few16 h).ss.length d0, .slice B1 (few16 h).ks.length d1, .slice B2 (few16 h).l.length d2]) ∧ HIn w' w'.heap.size B0 B1 B2 (few16 h).ss.length (few16 h).ks.length (few16 h).l.length (few16 h)) ∧ Only [] w w' :=
 few16_core A0 A1 A2 _ _ _ c0 c1 c2 (fewH h) w (fun w' O => few_first A0 A1 A2 c0 c1 c2 h w' (hg.only O (by simp)).up hm0 hm1 hm2 hz0 hz1 (hT.only O)) hT
theorem few16_in (A0 A1 A2 : Option Addr) (n0 n1 n2 c0 c1 c2 B : Nat) (G : Hst) (w : World) (hg : HIn w B A0 A1 A2 n0 n1 n2 G) (hf : fewH G = G) (hc : cutH G = G) :
  Calls Tryz.prog 22 #[.agg #[.slice A0 n0 c0, .slice A1 n1 c1, .slice A2 n2 c2]] w fun e w' => ∃ B0 B1 B2 d0 d1 d2, (e = .returned (.agg #[.slice B0 n0 d0, .slice B1 n1 d1, .slice B2 n2 d2]) ∧ HIn w' w'.heap.size B0 B1 B2 n0 n1 n2 G) ∧ Only [] w w' := by
 have := few16_core A0 A1 A2 n0 n1 n2 c0 c1 c2 G w (fun w' O => by
  have := few_in A0 A1 A2 n0 n1 n2 c0 c1 c2 B G w' (hg.same O) hf;rw [← hg.n0, ← hg.n1, ← hg.n2] at this ⊢;exact this) hg.u
 rw [hc, hg.n0, hg.n1, hg.n2] at this;exact this

/-! ### A world of not too many parts -/
def fewW (x : Wld) : Wld := ⟨x.c.take 50, x.l.take 50⟩
theorem fewW_few (x : Wld) : fewW (fewW x) = fewW x := by
 unfold fewW;dsimp only;rw [List.take_of_length_le (by rw [List.length_take]; omega), List.take_of_length_le (l := x.l.take 50) (by rw [List.length_take]; omega)]
end Go.Proofs.YtjfbeeogiejopaaGreatDoor
